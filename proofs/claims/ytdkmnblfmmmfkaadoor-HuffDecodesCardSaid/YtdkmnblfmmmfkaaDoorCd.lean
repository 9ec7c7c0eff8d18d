/-
  CONTRACTS: the document's Codes.
-/
import Derived.Test.YtdkmnblfmmmfkaaDoorCr
import Derived.Deep.OwnRows
namespace Go.Proofs.YtdkmnblfmmmfkaaDoor
open Go.RowKit Hf

/-- Numbers of 32 bits in block b. -/
structure Ck (w : World) (b : Nat) (f : Nat → Nat) : Prop where
  c : ∀ i, i < 257 → w.cell? ⟨b, i, none⟩ = some (.int .u32 (f i : Int))
  z : ∀ i, w.frozen? ⟨b, i, none⟩ = false
theorem Ck.set {w : World} {b : Nat} {f : Nat → Nat} (h : Ck w b f) (k x : Nat) : Ck (w.setCell ⟨b, k, none⟩ (.int .u32 (x : Int))) b (fun i => if i = k then x else f i) where
  c := fun i hi => by rw [cell_set _ _ _ _ _ _ (h.c i hi)]; by_cases e : i = k <;> simp [e]
  z := fun i => by rw [World.frozen?_setCell]; exact h.z i
theorem Ck.alike {w : World} {b : Nat} {f f' : Nat → Nat} (h : Ck w b f) (he : ∀ i, i < 257 → f i = f' i) : Ck w b f' where
  c := fun i hi => by rw [← he i hi]; exact h.c i hi
  z := h.z
theorem Ck.kept {w w' : World} {b : Nat} {f : Nat → Nat} (h : Ck w b f) (hb : Below (b + 1) w w') : Ck w' b f where
  c := fun i hi => (hb.cell (p := ⟨b, i, none⟩) (Nat.lt_succ_self b)).trans (h.c i hi)
  z := fun i => (hb.frozen (p := ⟨b, i, none⟩) (Nat.lt_succ_self b)).trans (h.z i)
theorem info32 : (Tryd.prog.info? 25).map (fun i => (i.zero, i.size, i.bytes)) = some (some (.int .u32 0), 1, 4) := by kernel_rfl
theorem ck_zero (w : World) : Ck (w.alloc (.cells (madeCells #[.int .u32 0] 257) 25)) w.heap.size (fun _ => 0) where
  c := fun i hi => by
    have h : (List.range 257).map (fun i => (madeCells #[Value.int .u32 0] 257)[i]?) = (List.range 257).map (fun _ => some (Value.int .u32 0)) := by kernel_rfl
    have := List.map_inj_left.1 h i (List.mem_range.2 hi)
    simpa using this
  z := fun i => by simp
/-- The rounds over the numbers of bits. -/
def CdBits (w : World) (s3 s4 : Value) (wr : World) : Prop := ∃ (j x : Nat), s4 = .int .i64 ((j : Int) + 1) ∧ s3 = .int .u32 (x : Int) ∧ 4 ≤ j ∧ j ≤ 30 ∧ x = fst j + num j ∧ Ck wr w.heap.size (fun i => if sz i ≤ j then code i else 0) ∧ Below w.heap.size w wr ∧ w.heap.size < wr.heap.size
/-- The rounds over the symbols. -/
def CdSyms (w : World) (m : Nat) (s3 s5 : Value) (wr : World) : Prop := ∃ (i x : Nat), s5 = .int .i64 (i : Int) ∧ s3 = .int .u32 (x : Int) ∧ i ≤ 257 ∧ x = fst m + cnt i m ∧ Ck wr w.heap.size (fun q => if sz q < m ∨ (sz q = m ∧ q < i) then code q else 0) ∧ Below w.heap.size w wr ∧ w.heap.size < wr.heap.size
set_option maxRecDepth 100000 in
set_option maxHeartbeats 4000000 in
theorem codesr_any (w : World) : Calls Tryd.prog 27 #[] w fun e w' => e = .returned (.slice (some ⟨w.heap.size, 0, none⟩) 257 257) ∧ Ck w' w.heap.size code ∧ Below w.heap.size w w' ∧ w.heap.size < w'.heap.size := by
  obtain ⟨i0, hinf, hz0, hz1, hz2⟩ := info_parts info32
  have HW := Lib.hid (ck_zero w)
  have HW2 : Hid (w.heap.size < (w.alloc (.cells (madeCells #[.int .u32 0] 257) 25)).heap.size ∧ Below w.heap.size w (w.alloc (.cells (madeCells #[.int .u32 0] 257) 25))) := Lib.hid ⟨by simp, (Below.refl _ _).alloc (Nat.le_refl _) _⟩
  go_enter Tryd.func27, Tryd.ntmps27
  go_wp2_with (at_make; refine wpList_make_row _ rfl _ _ _ rfl _ i0 (.int .u32 0) Tryd.underlying57 hinf hz0 hz1 rfl .i64 .i64 257 rfl rfl (by rw [hz2]; omega) (by omega) ?_)
  generalize w.alloc (.cells (madeCells #[.int .u32 0] 257) 25) = W1 at HW HW2 ⊢
  refine (lengths_any _).mono ?_
  rintro e w2 ⟨rfl, rfl⟩
  have hk4 : (fst 4 + num 4 : Nat) = 0 := by decide
  have HK4 := Lib.hid hk4; clear hk4
  go_wp2_with fail
  go_loopw [3, 4] (fun s3 s4 wr => CdBits w s3 s4 wr) (fun _ s4 _ => 40 - (intOf s4).toNat)
  case atStart => exact ⟨4, 0, rfl, rfl, by omega, by omega, HK4.out.symm, HW.out.alike (fun i hi => by rw [if_neg (by have := sz_lo hi; omega)]), HW2.out.2, HW2.out.1⟩
  case round =>
    obtain ⟨j, x, rfl, rfl, hj4, hj30, hx, hck, hB, hlt⟩ := hrel
    by_cases hj : j < 30
    · have hf := fst_all j hj
      have hfl := fst_le (n := j) (by omega)
      rw [← hx] at hf hfl
      have HX0 := Lib.hid hf; clear hf hx
      go_wp2_with fail
      go_loopw [3, 5] (fun s3 s5 wr => CdSyms w (j + 1) s3 s5 wr) (fun _ s5 _ => 257 - (intOf s5).toNat)
      case atStart => exact ⟨0, x * 2, rfl, by go_num, by omega, by rw [cnt_zero, HX0.out]; rfl, hck.alike (fun i _ => by by_cases e : sz i ≤ j <;> simp [e, Nat.lt_succ_iff]), hB, hlt⟩
      case round =>
        obtain ⟨i, x, rfl, rfl, hi7, hx, hck, hB, hlt⟩ := hrel
        have hcl := cnt_le i (j + 1)
        have hfl2 := fst_le (n := j + 1) (by omega)
        have hxl : x ≤ 1073742081 := by rw [hx]; exact Nat.add_le_add (Nat.le_trans (Nat.le_add_right _ _) hfl2) hcl
        have HX := Lib.hid hx
        clear hcl hfl2 hx hfl
        by_cases hi : i < 257
        · have ha := lets_all i hi
          have hsl : i < lets.size := by rw [lets_size]; exact hi
          have hci := hck.c i hi
          have hzi := hck.z i
          have HCK := Lib.hid hck
          clear hck
          generalize hz : sz i = z at ha
          have HZ := Lib.hid hz; clear hz
          by_cases e1 : z = j + 1
          · have hb1 : ((z : Int) == (j : Int) + 1) = true := by rw [beq_iff_eq]; omega
            have hz' : sz i = j + 1 := HZ.out.trans e1
            have HZ2 := Lib.hid hz'; clear hz'
            have hcode : code i = x := by rw [HX.out]; unfold code; rw [← rank_eq hi, HZ2.out]
            have HCO := Lib.hid hcode; clear hcode e1
            go_wp2_with fail
            have hxx : (x : Int) + 1 = ((x + 1 : Nat) : Int) := by simp
            refine ⟨⟨i + 1, x + 1, by go_num, by go_num, by omega, ?_, ?_, hB.setCell (Nat.le_refl _) _, by simpa using hlt⟩, by simp [intOf]; omega⟩
            · rw [HX.out, ← HZ2.out, cnt_same hi]; omega
            · refine (HCK.out.set i x).alike (fun q hq => ?_)
              by_cases e : q = i
              · subst e
                rw [if_pos rfl, if_pos (Or.inr ⟨HZ2.out, by omega⟩), HCO.out]
              · rw [if_neg e]
                by_cases e2 : sz q < j + 1 ∨ (sz q = j + 1 ∧ q < i)
                · rw [if_pos e2, if_pos (by rcases e2 with h | h; exact Or.inl h; exact Or.inr ⟨h.1, by omega⟩)]
                · rw [if_neg e2, if_neg (fun h => e2 (by rcases h with h | h; exact Or.inl h; exact Or.inr ⟨h.1, by omega⟩))]
          · have hb1 : ((z : Int) == (j : Int) + 1) = false := by rw [beq_eq_false_iff_ne]; omega
            have hzn : sz i ≠ j + 1 := by rw [HZ.out]; exact e1
            have HZN := Lib.hid hzn; clear hzn e1
            go_wp2_with fail
            refine ⟨⟨i + 1, x, by go_num, rfl, by omega, ?_, ?_, hB, hlt⟩, by simp [intOf]; omega⟩
            · rw [HX.out, cnt_other hi (fun h => HZN.out h.symm)]
            · refine HCK.out.alike (fun q hq => ?_)
              by_cases e2 : sz q < j + 1 ∨ (sz q = j + 1 ∧ q < i)
              · rw [if_pos e2, if_pos (by rcases e2 with h | h; exact Or.inl h; exact Or.inr ⟨h.1, by omega⟩)]
              · rw [if_neg e2, if_neg (fun h => e2 (by
                  rcases h with h | h
                  · exact Or.inl h
                  · refine Or.inr ⟨h.1, ?_⟩
                    have : q ≠ i := fun e => HZN.out (e ▸ h.1)
                    omega))]
        · obtain rfl : i = 257 := by omega
          have hxe : x = fst (j + 1) + num (j + 1) := by rw [HX.out, num_all (j + 1) (by omega)]
          have HE := Lib.hid hxe
          have HCK := Lib.hid hck
          clear hxe hi hck
          go_wp2
          refine ⟨⟨j + 1, x, by go_num, rfl, by omega, by omega, HE.out, ?_, hB, hlt⟩, by simp [intOf]; omega⟩
          refine HCK.out.alike (fun q hq => ?_)
          by_cases e2 : sz q ≤ j + 1
          · rw [if_pos e2, if_pos (by rcases Nat.lt_or_eq_of_le e2 with h | h; exact Or.inl h; exact Or.inr ⟨h, hq⟩)]
          · rw [if_neg e2, if_neg (fun h => e2 (by rcases h with h | h; exact Nat.le_of_lt h; exact Nat.le_of_eq h.1))]
    · obtain rfl : j = 30 := by omega
      rw [show (((30 : Nat) : Int) + 1) = 31 from rfl]
      go_wp2_with fail
      go_ret
      exact ⟨rfl, hck.alike (fun i hi => by rw [if_pos (sz_hi hi)]), hB, hlt⟩
end Go.Proofs.YtdkmnblfmmmfkaaDoor
