/-
  CONTRACTS: Len, Size, Most, shrink.
-/
import Derived.Test.YtlfnglnokakpfaaDoorTtK
import Derived.Deep.DeepCutAuto
namespace Go.Proofs.YtlfnglnokakpfaaDoor.Tt
open Go.RowKit

/-- Of what was there only block b may have turned. -/
structure Kp (b : Nat) (w w' : World) : Prop where
  os : w'.os = w.os
  tape : w'.tape = w.tape
  output : w'.output = w.output
  size : w.heap.size ≤ w'.heap.size
  block : ∀ k, k < w.heap.size → k ≠ b → w'.heap[k]? = w.heap[k]?
theorem Kp.refl (b : Nat) (w : World) : Kp b w w := ⟨rfl, rfl, rfl, Nat.le_refl _, fun _ _ _ => rfl⟩
theorem Kp.trans {b : Nat} {x y z : World} (h : Kp b x y) (k : Kp b y z) : Kp b x z :=
  ⟨k.os.trans h.os, k.tape.trans h.tape, k.output.trans h.output, Nat.le_trans h.size k.size, fun i hi hb => (k.block i (Nat.lt_of_lt_of_le hi h.size) hb).trans (h.block i hi hb)⟩
theorem Kp.drewN {b : Nat} {x y : World} (h : Kp b x y) (q : Nat) : Kp b x (y.drewN q) := h.trans ⟨rfl, rfl, rfl, Nat.le_refl _, fun _ _ _ => rfl⟩
theorem Kp.drew {b : Nat} {x y : World} (h : Kp b x y) : Kp b x y.drew := h.trans ⟨rfl, rfl, rfl, Nat.le_refl _, fun _ _ _ => rfl⟩
theorem Kp.alloc {b : Nat} {x y : World} (h : Kp b x y) (o : Obj) : Kp b x (y.alloc o) := h.trans ⟨rfl, rfl, rfl, by simp, fun k hk _ => Below.heap_alloc _ _ _ hk⟩
theorem Kp.set {b : Nat} {x y : World} (h : Kp b x y) (o : Nat) (v : Value) : Kp b x (y.setCell ⟨b, o, none⟩ v) := h.trans ⟨rfl, rfl, rfl, by simp [World.setCell], fun k _ hb => Below.heap_setCell _ _ _ _ hb⟩
theorem Kp.of_below {b : Nat} {x y : World} (h : Below x.heap.size x y) : Kp b x y := ⟨h.os, h.tape, h.output, h.size, fun k hk _ => h.block k hk⟩
theorem Kp.below {b B : Nat} {x y : World} (h : Kp b x y) (hb : B ≤ b) (hB : B ≤ x.heap.size) : Below B x y := ⟨h.os, h.tape, h.output, h.size, fun k hk => h.block k (by omega) (by omega)⟩

theorem Tb.kept {w w' : World} {b : Nat} {R : Nat → Hd} {o k s m : Nat} (h : Tb w b R o k s m) (hb : w'.heap[b]? = w.heap[b]?) : Tb w' b R o k s m := by
  have hc : ∀ i, w'.cell? ⟨b, i, none⟩ = w.cell? ⟨b, i, none⟩ := fun i => World.cell?_of_block hb
  have hf : ∀ i, w'.frozen? ⟨b, i, none⟩ = w.frozen? ⟨b, i, none⟩ := fun i => World.frozen?_of_block hb
  exact ⟨fun i hi => (hc _).trans (h.r0 i hi), fun i hi => (hc _).trans (h.r1 i hi), fun i hi => (hc _).trans (h.r2 i hi), (hc _).trans h.c0, (hc _).trans h.c1, (hc _).trans h.c2, (hc _).trans h.c3, fun i => (hf _).trans (h.z i)⟩
theorem Tb.lt {w : World} {b : Nat} {R : Nat → Hd} {o k s m : Nat} (h : Tb w b R o k s m) : b < w.heap.size := cell_lt h.c0
theorem Tb.below {w w' : World} {b : Nat} {R : Nat → Hd} {o k s m : Nat} (h : Tb w b R o k s m) (hb : Below w.heap.size w w') : Tb w' b R o k s m := h.kept (hb.block b h.lt)

theorem cell_setN (w : World) (b i j : Nat) (u : Value) (h : i ≠ j) : (w.setCell ⟨b, i, none⟩ u).cell? ⟨b, j, none⟩ = w.cell? ⟨b, j, none⟩ := by
  simp [go_sem, h, Ne.symm h]
theorem cell_setS (w : World) (b i : Nat) (u v : Value) (h : w.cell? ⟨b, i, none⟩ = some v) : (w.setCell ⟨b, i, none⟩ u).cell? ⟨b, i, none⟩ = some u := by
  simp [go_sem, h]
theorem Tb.set2 {w : World} {b : Nat} {R : Nat → Hd} {o k s m : Nat} (h : Tb w b R o k s m) (s' : Nat) : Tb (w.setCell ⟨b, 386, none⟩ (.int .i64 (s' : Int))) b R o k s' m :=
  ⟨fun i hi => by rw [cell_setN _ _ _ _ _ (by omega)]; exact h.r0 i hi, fun i hi => by rw [cell_setN _ _ _ _ _ (by omega)]; exact h.r1 i hi, fun i hi => by rw [cell_setN _ _ _ _ _ (by omega)]; exact h.r2 i hi,
   by rw [cell_setN _ _ _ _ _ (by omega)]; exact h.c0, by rw [cell_setN _ _ _ _ _ (by omega)]; exact h.c1, cell_setS _ _ _ _ _ h.c2, by rw [cell_setN _ _ _ _ _ (by omega)]; exact h.c3, fun i => by rw [World.frozen?_setCell]; exact h.z i⟩
theorem Tb.set0 {w : World} {b : Nat} {R : Nat → Hd} {o k s m : Nat} (h : Tb w b R o k s m) (o' : Nat) : Tb (w.setCell ⟨b, 384, none⟩ (.int .i64 (o' : Int))) b R o' k s m :=
  ⟨fun i hi => by rw [cell_setN _ _ _ _ _ (by omega)]; exact h.r0 i hi, fun i hi => by rw [cell_setN _ _ _ _ _ (by omega)]; exact h.r1 i hi, fun i hi => by rw [cell_setN _ _ _ _ _ (by omega)]; exact h.r2 i hi,
   cell_setS _ _ _ _ _ h.c0, by rw [cell_setN _ _ _ _ _ (by omega)]; exact h.c1, by rw [cell_setN _ _ _ _ _ (by omega)]; exact h.c2, by rw [cell_setN _ _ _ _ _ (by omega)]; exact h.c3, fun i => by rw [World.frozen?_setCell]; exact h.z i⟩
theorem Tb.set1 {w : World} {b : Nat} {R : Nat → Hd} {o k s m : Nat} (h : Tb w b R o k s m) (k' : Nat) : Tb (w.setCell ⟨b, 385, none⟩ (.int .i64 (k' : Int))) b R o k' s m :=
  ⟨fun i hi => by rw [cell_setN _ _ _ _ _ (by omega)]; exact h.r0 i hi, fun i hi => by rw [cell_setN _ _ _ _ _ (by omega)]; exact h.r1 i hi, fun i hi => by rw [cell_setN _ _ _ _ _ (by omega)]; exact h.r2 i hi,
   by rw [cell_setN _ _ _ _ _ (by omega)]; exact h.c0, cell_setS _ _ _ _ _ h.c1, by rw [cell_setN _ _ _ _ _ (by omega)]; exact h.c2, by rw [cell_setN _ _ _ _ _ (by omega)]; exact h.c3, fun i => by rw [World.frozen?_setCell]; exact h.z i⟩
theorem Tb.set3 {w : World} {b : Nat} {R : Nat → Hd} {o k s m : Nat} (h : Tb w b R o k s m) (m' : Nat) : Tb (w.setCell ⟨b, 387, none⟩ (.int .i64 (m' : Int))) b R o k s m' :=
  ⟨fun i hi => by rw [cell_setN _ _ _ _ _ (by omega)]; exact h.r0 i hi, fun i hi => by rw [cell_setN _ _ _ _ _ (by omega)]; exact h.r1 i hi, fun i hi => by rw [cell_setN _ _ _ _ _ (by omega)]; exact h.r2 i hi,
   by rw [cell_setN _ _ _ _ _ (by omega)]; exact h.c0, by rw [cell_setN _ _ _ _ _ (by omega)]; exact h.c1, by rw [cell_setN _ _ _ _ _ (by omega)]; exact h.c2, cell_setS _ _ _ _ _ h.c3, fun i => by rw [World.frozen?_setCell]; exact h.z i⟩
/-- A header stored at place q of the ring. -/
theorem Tb.setR {w : World} {b : Nat} {R : Nat → Hd} {o k s m : Nat} (h : Tb w b R o k s m) (q : Nat) (hq : q < 128) (g : Hd) :
    Tb (((w.setCell ⟨b, q * 3, none⟩ (.string g.1)).setCell ⟨b, q * 3 + 1, none⟩ (.string g.2)).setCell ⟨b, q * 3 + 2, none⟩ (.bool false)) b (fun i => if i = q then g else R i) o k s m := by
  have e0 := h.r0 q hq
  have e1 := h.r1 q hq
  have e2 := h.r2 q hq
  refine ⟨fun i hi => ?_, fun i hi => ?_, fun i hi => ?_, ?_, ?_, ?_, ?_, fun i => ?_⟩
  · by_cases e : i = q
    · subst e
      rw [cell_setN _ _ _ _ _ (by omega), cell_setN _ _ _ _ _ (by omega), if_pos rfl]
      exact cell_setS _ _ _ _ _ e0
    · rw [cell_setN _ _ _ _ _ (by omega), cell_setN _ _ _ _ _ (by omega), cell_setN _ _ _ _ _ (by omega), if_neg e]
      exact h.r0 i hi
  · by_cases e : i = q
    · subst e
      rw [cell_setN _ _ _ _ _ (by omega), if_pos rfl]
      exact cell_setS _ _ _ _ _ (by rw [cell_setN _ _ _ _ _ (by omega)]; exact e1)
    · rw [cell_setN _ _ _ _ _ (by omega), cell_setN _ _ _ _ _ (by omega), cell_setN _ _ _ _ _ (by omega), if_neg e]
      exact h.r1 i hi
  · by_cases e : i = q
    · subst e
      exact cell_setS _ _ _ _ _ (by rw [cell_setN _ _ _ _ _ (by omega), cell_setN _ _ _ _ _ (by omega)]; exact e2)
    · rw [cell_setN _ _ _ _ _ (by omega), cell_setN _ _ _ _ _ (by omega), cell_setN _ _ _ _ _ (by omega)]
      exact h.r2 i hi
  · rw [cell_setN _ _ _ _ _ (by omega), cell_setN _ _ _ _ _ (by omega), cell_setN _ _ _ _ _ (by omega)]; exact h.c0
  · rw [cell_setN _ _ _ _ _ (by omega), cell_setN _ _ _ _ _ (by omega), cell_setN _ _ _ _ _ (by omega)]; exact h.c1
  · rw [cell_setN _ _ _ _ _ (by omega), cell_setN _ _ _ _ _ (by omega), cell_setN _ _ _ _ _ (by omega)]; exact h.c2
  · rw [cell_setN _ _ _ _ _ (by omega), cell_setN _ _ _ _ _ (by omega), cell_setN _ _ _ _ _ (by omega)]; exact h.c3
  · rw [World.frozen?_setCell, World.frozen?_setCell, World.frozen?_setCell]; exact h.z i
theorem Tb.alloc {w : World} {b : Nat} {R : Nat → Hd} {o k s m : Nat} (h : Tb w b R o k s m) (ob : Obj) (hb : b < w.heap.size) : Tb (w.alloc ob) b R o k s m := h.kept (Below.heap_alloc _ _ _ hb)
theorem Tb.drew {w : World} {b : Nat} {R : Nat → Hd} {o k s m : Nat} (h : Tb w b R o k s m) : Tb w.drew b R o k s m := h.kept rfl
theorem Tb.drewN {w : World} {b : Nat} {R : Nat → Hd} {o k s m : Nat} (h : Tb w b R o k s m) (q : Nat) : Tb (w.drewN q) b R o k s m := h.kept rfl

set_option maxRecDepth 100000 in
theorem len_any {w : World} {b : Nat} {R : Nat → Hd} {o k s m : Nat} (h : Tb w b R o k s m) : Calls Tryd.prog 63 #[.pointer (some ⟨b, 0, none⟩)] w fun e w' => e = .returned (.int .i64 (k : Int)) ∧ w = w' := by
  have h1 := h.c1
  go_enter Tryd.func63, Tryd.ntmps63
  go_wp2
  go_ret
  exact ⟨rfl, rfl⟩
set_option maxRecDepth 100000 in
theorem most_any {w : World} {b : Nat} {R : Nat → Hd} {o k s m : Nat} (h : Tb w b R o k s m) : Calls Tryd.prog 79 #[.pointer (some ⟨b, 0, none⟩)] w fun e w' => e = .returned (.int .i64 (m : Int)) ∧ w = w' := by
  have h1 := h.c3
  go_enter Tryd.func79, Tryd.ntmps79
  go_wp2
  go_ret
  exact ⟨rfl, rfl⟩

/-- What the ring holds, the oldest first. -/
structure Rg (R : Nat → Hd) (o : Nat) (M : List Hd) : Prop where
  lt : o < 128
  len : M.length ≤ 128
  at_ : ∀ j (h : j < M.length), R ((o + j) % 128) = M[j]
def zw (o : Nat) (R : Nat → Hd) : Nat → Hd := fun i => if i = o then (⟨#[]⟩, ⟨#[]⟩) else R i
theorem Rg.pop {R : Nat → Hd} {o : Nat} {g : Hd} {N : List Hd} (h : Rg R o (g :: N)) : Rg (zw o R) ((o + 1) % 128) N := by
  have hl := h.len
  simp only [List.length_cons] at hl
  have ho := h.lt
  refine ⟨Nat.mod_lt _ (by decide), by omega, fun j hj => ?_⟩
  have h1 := h.at_ (j + 1) (by simp; omega)
  rw [List.getElem_cons_succ] at h1
  unfold zw
  rw [show ((o + 1) % 128 + j) % 128 = (o + (j + 1)) % 128 by omega, if_neg (by omega)]
  exact h1
/-- The oldest go, until no more than m is left. -/
def shr (m : Nat) : List Hd → List Hd
  | [] => []
  | h :: t => if m < total (h :: t) then shr m t else h :: t
theorem total_ge : ∀ l : List Hd, 32 * l.length ≤ total l
  | [] => by simp
  | h :: t => by
    have := total_ge t
    simp only [total, List.length_cons, sizeH]
    omega
/-- The number in a cell: for a measure. -/
def cellN (w : World) (b i : Nat) : Nat := match w.cell? ⟨b, i, none⟩ with
  | some (.int _ n) => n.toNat
  | _ => 0
def ShrRel (b m x : Nat) (M : List Hd) (w : World) (wr : World) : Prop := ∃ (R : Nat → Hd) (o : Nat) (N : List Hd), Rg R o N ∧ Tb wr b R o N.length (total N) m ∧ Hid (shr x M = shr x N) ∧ total N ≤ 4096 ∧ Kp b w wr
def ShrPost (b m x : Nat) (M : List Hd) (w : World) (e : Ending) (w' : World) : Prop := ∃ (R : Nat → Hd) (o : Nat), e = .returned (.tuple #[]) ∧ Rg R o (shr x M) ∧ Tb w' b R o (shr x M).length (total (shr x M)) m ∧ Kp b w w'
set_option maxRecDepth 100000 in
set_option maxHeartbeats 4000000 in
theorem shrink_any (b m x : Nat) (M : List Hd) {R : Nat → Hd} {o : Nat} (w : World) (hM : total M ≤ 4096) (hx : x ≤ 4096) (hr : Rg R o M) (h : Tb w b R o M.length (total M) m) :
    Calls Tryd.prog 77 #[.pointer (some ⟨b, 0, none⟩), .int .i64 (x : Int)] w (ShrPost b m x M w) := by
  go_enter Tryd.func77, Tryd.ntmps77
  go_wp2
  go_loopw [4] (fun _ wr => ShrRel b m x M w wr) (fun _ wr => cellN wr b 386)
  case atStart => exact ⟨R, o, M, hr, h, Lib.hid rfl, hM, Kp.refl _ _⟩
  case round =>
    obtain ⟨R, o, N, hr, h, hs, hN, hk⟩ := hrel
    have q2 := h.c2
    by_cases hlt : x < total N
    · cases N with
      | nil => simp [total] at hlt
      | cons g N =>
        have ho := hr.lt
        have hg := hr.at_ 0 (by simp)
        rw [Nat.add_zero, Nat.mod_eq_of_lt ho] at hg
        have p0 := h.r0 o ho
        have p1 := h.r1 o ho
        have p2 := h.r2 o ho
        rw [hg] at p0 p1
        have q0 := h.c0
        have q1 := h.c1
        have hsz : sizeH g ≤ 4096 := by simp only [total, List.getElem_cons_zero] at hN; omega
        have hsg : g.1.size ≤ 4096 ∧ g.2.size ≤ 4096 := by unfold sizeH at hsz; omega
        simp only [List.getElem_cons_zero] at p0 p1
        have ho1 : (0 : Int) ≤ (o : Int) := by omega
        have ho2 : (o : Int) < 128 := by omega
        have HC := Lib.hid (fun W => sizeOf_any g false W (by omega) (by omega))
        have hbl := h.lt
        have hne : ¬ b = wr.heap.size := by omega
        have hne' : ¬ wr.heap.size = b := by omega
        have hfa := fun (W : World) (c : Array Value) (t : TypeId) (a : Addr) => frozen?_alloc_cells W c t a
        have hz := h.z 386
        have HT : Hid (total (g :: N) = sizeH g + total N) := Lib.hid rfl
        have hw : IntKind.i64.wrap (((total (g :: N) : Nat) : Int) - (sizeH g : Int)) = ((total N : Nat) : Int) := by
          have := HT.out
          rw [HT.out, IntWalk.i64_in _ (by omega)]; omega
        have hcN : cellN wr b 386 = total (g :: N) := by unfold cellN; rw [h.c2]; rfl
        have HCN := Lib.hid hcN
        clear hcN
        have h32 : 32 ≤ sizeH g := by unfold sizeH; omega
        generalize hTT0 : total (g :: N) = T at hlt hN q2 HT hw
        have HTT0 := Lib.hid hTT0
        clear hTT0
        generalize hT' : total N = T' at HT hw
        have HT' := Lib.hid hT'
        clear hT'
        generalize sizeH g = G at HC hw HT hsz h32
        have htb := Lib.hid h
        go_upto_region 1 with fail
        go_cut [10] (fun _ wx => Tb wx b R o (g :: N).length T' m ∧ Kp b wr wx)
        case first =>
          go_region_law (go_simp; (with_reducible_and_instances refine Calls.mono (HC.out _) ?_); rintro e w' ⟨rfl, rfl⟩; go_simp)
          all_goals (go_wp2_with fail; go_meet)
          all_goals exact ⟨((htb.out.set2 T').alloc _ (by simp [World.setCell]; omega)).drew, ((((Kp.refl b wr).set _ _).alloc _).drew)⟩
        case rest =>
          obtain ⟨hw1, hk1⟩ := hcut
          have htb1 := Lib.hid hw1
          have c0 := hw1.c0
          have d0 := hw1.r0 o ho
          have d1 := hw1.r1 o ho
          have d2 := hw1.r2 o ho
          have hz1 := fun i => hw1.z i
          clear q0 q1 q2 p0 p1 p2 hz hw1 htb
          go_upto_region 2 with fail
          go_cut [10] (fun _ wx => Tb wx b (zw o R) o (g :: N).length T' m ∧ Kp b wc wx)
          case first =>
            go_region
            all_goals (go_wp2_with fail; go_meet)
            all_goals exact ⟨(htb1.out.setR o ho (⟨#[]⟩, ⟨#[]⟩)).drew, ((((Kp.refl b wc).set _ _).set _ _).set _ _).drew⟩
          case rest =>
            obtain ⟨hw2, hk2⟩ := hcut
            have e0 := hw2.c0
            have e1 := hw2.c1
            have hz2 := fun i => hw2.z i
            have htb2 := Lib.hid hw2
            obtain ⟨o2, ho3⟩ : ∃ o2, o2 = (o + 1) % 128 := ⟨_, rfl⟩
            have hx1 : ((o : Int) + 1) % 128 = (o2 : Int) := by omega
            have HO := Lib.hid ho3
            have hNl := hr.len
            simp only [List.length_cons] at e1 hNl
            have HRG := Lib.hid hr
            have hTT := HT.out
            have HTT : Hid (T = G + T') := Lib.hid hTT
            clear hTT ho3 hr hg
            clear hw2 c0 d0 d1 d2 hz1 htb1
            go_wp2
            have hfin := (htb2.out.set0 o2).set1 N.length
            refine ⟨⟨zw o R, o2, N, HO.out ▸ HRG.out.pop, by rw [HT'.out]; exact hfin, Lib.hid (by rw [hs.out, shr, if_pos (by rw [HTT0.out]; exact hlt)]), by rw [HT'.out]; have := HTT.out; omega, hk.trans (hk1.trans (hk2.trans (((Kp.refl b wc).set _ _).set _ _)))⟩, ?_⟩
            rw [HCN.out, HTT0.out]
            unfold cellN
            rw [hfin.c2]
            have := HTT.out
            simp only [Int.toNat_natCast]
            omega
    · have hsN : shr x M = N := by
        rw [hs.out]
        cases N with
        | nil => rfl
        | cons g N => rw [shr, if_neg hlt]
      have HS := Lib.hid hsN
      have HH := Lib.hid h
      have HR := Lib.hid hr
      have q1 := h.c1
      have q0 := h.c0
      have hz := fun i => h.z i
      clear hsN h
      cases N with
      | nil =>
        simp only [List.length_nil] at q1
        go_wp2
        go_end0
        refine ⟨R, 0, rfl, ?_, ?_, hk.trans ((Kp.refl b wr).set _ _)⟩
        · rw [HS.out]; exact ⟨by omega, by simp, fun j h => by simp at h⟩
        · rw [HS.out]; exact HH.out.set0 0
      | cons g N =>
        have hne : ((g :: N).length : Int) ≠ 0 := by simp only [List.length_cons]; omega
        have hb : (((g :: N).length : Int) == 0) = false := by rw [beq_eq_false_iff_ne]; exact hne
        generalize hl : (g :: N).length = n at q1 hne hb
        have HLN := Lib.hid hl
        clear hl
        go_wp2
        go_end0
        refine ⟨R, o, rfl, ?_, ?_, hk⟩
        · rw [HS.out]; exact HR.out
        · rw [HS.out]; exact HH.out
end Go.Proofs.YtlfnglnokakpfaaDoor.Tt
