import Derived.Test.YtlkieeindnpidaaDoorHuS
import Derived.Deep.OwnRows
import Derived.Test.YtlkieeindnpidaaDoorHuMe
import Derived.Test.YtlkieeindnpidaaDoorHuMf
import Derived.Test.YtlkieeindnpidaaDoorHuR

namespace Go.Proofs.YtlkieeindnpidaaDoor.Hu
open Go.RowKit Hf

theorem sl_new (w : World) (l : List UInt8) (hl : l.length ≤ maxLen) : Sl (w.alloc (.cells (cellsOf l).toArray 5)) (some ⟨w.heap.size, 0, none⟩) l.length l.length l := by
  refine ⟨rfl, Nat.le_refl _, hl, (fun h => by cases h), fun i hi => ⟨_, _, rfl, ?_⟩⟩
  have := cellsOf_get hi
  simp [this]
def exBytes : List UInt8 := [241, 227, 194, 229, 242, 58, 107, 160, 171, 144, 244, 255]
abbrev exCells : Array Value := #[.int .u8 241, .int .u8 227, .int .u8 194, .int .u8 229, .int .u8 242, .int .u8 58, .int .u8 107, .int .u8 160, .int .u8 171, .int .u8 144, .int .u8 244, .int .u8 255]
theorem sl_ex (w : World) : Sl (w.alloc (.cells exCells 5)) (some ⟨w.heap.size, 0, none⟩) 12 12 exBytes := sl_new w exBytes (by unfold maxLen; simp [exBytes])
def exText : ByteArray := ⟨#[119, 119, 119, 46, 101, 120, 97, 109, 112, 108, 101, 46, 99, 111, 109]⟩
theorem ex_enc : enc (str exText) = exBytes := by decide +kernel
theorem ex_dec : saysText [7] = some [48] := by decide +kernel
theorem ex_code : code 97 = 3 := by decide +kernel
theorem ex_sz : sz 48 = 5 := by decide +kernel

end Go.Proofs.YtlkieeindnpidaaDoor.Hu

namespace Go.Proofs.YtlkieeindnpidaaDoor.Hu
open Go.RowKit Hf

set_option maxRecDepth 100000 in
theorem lengths_any (w : World) : Calls Tryd.prog 69 #[] w fun e w' => e = .returned (.string lets) ∧ w = w' := by
  go_enter Tryd.func69, Tryd.ntmps69
  go_wp2
  go_ret
  exact ⟨rfl, rfl⟩
/-- The codes of m bits that the first i symbols take, as the document counts for symbol s of k bits. -/
def took (s k m i : Nat) : Nat := if m = k then cnt (min i s) k else cnt i m
theorem took_zero (s k m : Nat) : took s k m 0 = 0 := by unfold took; split <;> simp [cnt_zero]
theorem took_skip {s k m i : Nat} (h : i < 257) (hs : s < 257) (hn : sz i ≠ m ∨ (m = k ∧ s ≤ i)) : took s k m (i + 1) = took s k m i := by
  unfold took
  by_cases e : m = k
  · rw [if_pos e, if_pos e]
    by_cases hle : s ≤ i
    · rw [Nat.min_eq_right hle, Nat.min_eq_right (by omega)]
    · rw [Nat.min_eq_left (by omega), Nat.min_eq_left (by omega)]
      rcases hn with hn | hn
      · rw [cnt_other h (by omega)]
      · omega
  · rw [if_neg e, if_neg e]
    rcases hn with hn | hn
    · rw [cnt_other h (by omega)]
    · exact absurd hn.1 e
theorem took_one {s k m i : Nat} (h : i < 257) (hz : sz i = m) (hn : m ≠ k ∨ i < s) : took s k m (i + 1) = took s k m i + 1 := by
  unfold took
  by_cases e : m = k
  · rw [if_pos e, if_pos e]
    have hi : i < s := by rcases hn with hn | hn; exact absurd e hn; exact hn
    rw [Nat.min_eq_left (by omega), Nat.min_eq_left (by omega), ← e, ← hz, cnt_same h]
  · rw [if_neg e, if_neg e, ← hz, cnt_same h]
theorem took_le (s k m i : Nat) : took s k m i ≤ 257 := by unfold took; split <;> exact cnt_le _ _
theorem took_end {s k m : Nat} (hs : s < 257) (hk : sz s = k) (hm : m < 31) : took s k m 257 = if m = k then rank s else num m := by
  unfold took
  by_cases e : m = k
  · rw [if_pos e, if_pos e, Nat.min_eq_right (by omega), ← hk, rank_eq hs]
  · rw [if_neg e, if_neg e, num_all m hm]

/-- The rounds over the numbers of bits. -/
def BitsRel (s k : Nat) (w : World) (s6 s7 : Value) (wr : World) : Prop := ∃ (j x : Nat), s7 = .int .i64 ((j : Int) + 1) ∧ s6 = .int .i64 (x : Int) ∧ 4 ≤ j ∧ j ≤ k ∧ x = (if j < k then fst j + num j else code s) ∧ w = wr
/-- The rounds over the symbols. -/
def SymRel (s k m : Nat) (w : World) (s6 s8 : Value) (wr : World) : Prop := ∃ (i x : Nat), s8 = .int .i64 (i : Int) ∧ s6 = .int .i64 (x : Int) ∧ i ≤ 257 ∧ x = fst m + took s k m i ∧ w = wr

end Go.Proofs.YtlkieeindnpidaaDoor.Hu

namespace Go.Proofs.YtlkieeindnpidaaDoor.Hu
open Go.RowKit Hf

/-- Its rounds. -/
def SizeRel (S : ByteArray) (w : World) (s3 s5 : Value) (wr : World) : Prop := ∃ k x : Nat, s5 = .int .i64 (k : Int) ∧ s3 = .int .i64 (x : Int) ∧ k ≤ S.size ∧ x = totN ((str S).take k) ∧ x ≤ 32000000 ∧ w = wr
set_option maxRecDepth 100000 in
set_option maxHeartbeats 1000000 in
theorem sizer_any (S : ByteArray) (hS : S.size ≤ 1048576) (w : World) : Calls Tryd.prog 47 #[.string S] w fun e w' => e = .returned (.int .i64 (((totN (str S) + 7) / 8 : Nat) : Int)) ∧ w = w' := by
  go_enter Tryd.func47, Tryd.ntmps47
  go_wp2_with fail
  refine (lengths_any _).mono ?_
  rintro e w2 ⟨rfl, rfl⟩
  go_wp2_with fail
  go_loopw [3, 5] (fun s3 s5 wr => SizeRel S w s3 s5 wr) (fun _ s5 _ => S.size - (intOf s5).toNat)
  case atStart => exact ⟨0, 0, rfl, rfl, by omega, rfl, by omega, rfl⟩
  case round =>
    obtain ⟨k, x, rfl, rfl, hk, hx, hx3, rfl⟩ := hrel
    by_cases hlt : k < S.size
    · have ht := str_take S hlt
      have hN := totN_snoc ((str S).take k) S[k]
      rw [← ht, ← hx] at hN
      have hle : totN ((str S).take (k + 1)) ≤ 32000000 := Nat.le_trans (totN_le _) (Nat.le_trans (Nat.mul_le_mul_left 30 (show ((str S).take (k + 1)).length ≤ 1048576 by rw [List.length_take, str_len]; omega)) (by omega))
      rw [hN] at hle
      have hx8 : S[k].toNat < 256 := S[k].toNat_lt
      have ha := lets_all S[k].toNat (b257 _)
      have hsl : S[k].toNat < lets.size := by rw [lets_size]; exact b257 _
      have hi0 : (0 : Int) ≤ ((S[k].toNat : Nat) : Int) := by omega
      generalize sz S[k].toNat = z at hN hle ha
      have HN := Lib.hid hN
      clear hN ht hx
      go_wp2_with fail
      refine ⟨⟨k + 1, x + z, by go_num, ?_, by omega, HN.out.symm, hle, rfl⟩, by simp [intOf]; omega⟩
      rw [show (x : Int) + ((lets[S[k].toNat].toNat : Int) - 97) % 256 + 5 = (x : Int) + (((lets[S[k].toNat].toNat : Int) - 97) % 256 + 5) by omega, ha]
      simp
    · obtain rfl : k = S.size := by omega
      rw [List.take_of_length_le (Nat.le_of_eq (str_len S))] at hx
      have HX := Lib.hid hx
      clear hx
      go_wp2
      go_ret
      exact ⟨ret_int (by rw [← HX.out]; omega), rfl⟩
end Go.Proofs.YtlkieeindnpidaaDoor.Hu

namespace Go.Proofs.YtlkieeindnpidaaDoor.Hu
open Go.RowKit Hf

/-- Numbers of 32 bits in block b. -/
structure Ck (w : World) (b : Nat) (f : Nat → Nat) : Prop where
  c : ∀ i, i < 257 → w.cell? ⟨b, i, none⟩ = some (.int .u32 (f i : Int))
  z : ∀ i, w.frozen? ⟨b, i, none⟩ = false
theorem Ck.set {w : World} {b : Nat} {f : Nat → Nat} (h : Ck w b f) (k x : Nat) : Ck (w.setCell ⟨b, k, none⟩ (.int .u32 (x : Int))) b (fun i => if i = k then x else f i) where
  c := fun i hi => by rw [cell_set _ _ _ _ _ _ (h.c i hi)]; by_cases e : i = k <;> simp [e]
  z := fun i => by rw [World.frozen?_setCell]; exact h.z i
theorem Ck.alike {w : World} {b : Nat} {f f' : Nat → Nat} (h : Ck w b f) (he : ∀ i, i < 257 → f i = f' i) : Ck w b f' where
  c := fun i hi => by rw [← he i hi]; exact h.c i hi
  z := h.z
theorem Ck.kept {w w' : World} {b : Nat} {f : Nat → Nat} (h : Ck w b f) (hb : Below (b + 1) w w') : Ck w' b f where
  c := fun i hi => (hb.cell (p := ⟨b, i, none⟩) (Nat.lt_succ_self b)).trans (h.c i hi)
  z := fun i => (hb.frozen (p := ⟨b, i, none⟩) (Nat.lt_succ_self b)).trans (h.z i)
theorem info32 : (Tryd.prog.info? 120).map (fun i => (i.zero, i.size, i.bytes)) = some (some (.int .u32 0), 1, 4) := by kernel_rfl
theorem ck_zero (w : World) : Ck (w.alloc (.cells (madeCells #[.int .u32 0] 257) 120)) w.heap.size (fun _ => 0) where
  c := fun i hi => by
    have h : (List.range 257).map (fun i => (madeCells #[Value.int .u32 0] 257)[i]?) = (List.range 257).map (fun _ => some (Value.int .u32 0)) := by kernel_rfl
    have := List.map_inj_left.1 h i (List.mem_range.2 hi)
    simpa using this
  z := fun i => by simp
/-- The rounds over the numbers of bits. -/
def CdBits (w : World) (s3 s4 : Value) (wr : World) : Prop := ∃ (j x : Nat), s4 = .int .i64 ((j : Int) + 1) ∧ s3 = .int .u32 (x : Int) ∧ 4 ≤ j ∧ j ≤ 30 ∧ x = fst j + num j ∧ Ck wr w.heap.size (fun i => if sz i ≤ j then code i else 0) ∧ Below w.heap.size w wr ∧ w.heap.size < wr.heap.size
/-- The rounds over the symbols. -/
def CdSyms (w : World) (m : Nat) (s3 s5 : Value) (wr : World) : Prop := ∃ (i x : Nat), s5 = .int .i64 (i : Int) ∧ s3 = .int .u32 (x : Int) ∧ i ≤ 257 ∧ x = fst m + cnt i m ∧ Ck wr w.heap.size (fun q => if sz q < m ∨ (sz q = m ∧ q < i) then code q else 0) ∧ Below w.heap.size w wr ∧ w.heap.size < wr.heap.size
set_option maxRecDepth 100000 in
set_option maxHeartbeats 4000000 in
theorem codesr_any (w : World) : Calls Tryd.prog 70 #[] w fun e w' => e = .returned (.slice (some ⟨w.heap.size, 0, none⟩) 257 257) ∧ Ck w' w.heap.size code ∧ Below w.heap.size w w' ∧ w.heap.size < w'.heap.size := by
  obtain ⟨i0, hinf, hz0, hz1, hz2⟩ := info_parts info32
  have HW := Lib.hid (ck_zero w)
  have HW2 : Hid (w.heap.size < (w.alloc (.cells (madeCells #[.int .u32 0] 257) 120)).heap.size ∧ Below w.heap.size w (w.alloc (.cells (madeCells #[.int .u32 0] 257) 120))) := Lib.hid ⟨by simp, (Below.refl _ _).alloc (Nat.le_refl _) _⟩
  go_enter Tryd.func70, Tryd.ntmps70
  go_wp2_with (at_make; refine wpList_make_row _ rfl _ _ _ rfl _ i0 (.int .u32 0) Tryd.underlying118 hinf hz0 hz1 rfl .i64 .i64 257 rfl rfl (by rw [hz2]; omega) (by omega) ?_)
  generalize w.alloc (.cells (madeCells #[.int .u32 0] 257) 120) = W1 at HW HW2 ⊢
  refine (lengths_any _).mono ?_
  rintro e w2 ⟨rfl, rfl⟩
  have hk4 : (fst 4 + num 4 : Nat) = 0 := by decide
  have HK4 := Lib.hid hk4; clear hk4
  go_wp2_with fail
  go_loopw [3, 4] (fun s3 s4 wr => CdBits w s3 s4 wr) (fun _ s4 _ => 40 - (intOf s4).toNat)
  case atStart => exact ⟨4, 0, rfl, rfl, by omega, by omega, HK4.out.symm, HW.out.alike (fun i hi => by rw [if_neg (by have := sz_lo hi; omega)]), HW2.out.2, HW2.out.1⟩
  case round =>
    obtain ⟨j, x, rfl, rfl, hj4, hj30, hx, hck, hB, hlt⟩ := hrel
    by_cases hj : j < 30
    · have hf := fst_all j hj
      have hfl := fst_le (n := j) (by omega)
      rw [← hx] at hf hfl
      have HX0 := Lib.hid hf; clear hf hx
      go_wp2_with fail
      go_loopw [3, 5] (fun s3 s5 wr => CdSyms w (j + 1) s3 s5 wr) (fun _ s5 _ => 257 - (intOf s5).toNat)
      case atStart => exact ⟨0, x * 2, rfl, by go_num, by omega, by rw [cnt_zero, HX0.out]; rfl, hck.alike (fun i _ => by by_cases e : sz i ≤ j <;> simp [e, Nat.lt_succ_iff]), hB, hlt⟩
      case round =>
        obtain ⟨i, x, rfl, rfl, hi7, hx, hck, hB, hlt⟩ := hrel
        have hcl := cnt_le i (j + 1)
        have hfl2 := fst_le (n := j + 1) (by omega)
        have hxl : x ≤ 1073742081 := by rw [hx]; exact Nat.add_le_add (Nat.le_trans (Nat.le_add_right _ _) hfl2) hcl
        have HX := Lib.hid hx
        clear hcl hfl2 hx hfl
        by_cases hi : i < 257
        · have ha := lets_all i hi
          have hsl : i < lets.size := by rw [lets_size]; exact hi
          have hci := hck.c i hi
          have hzi := hck.z i
          have HCK := Lib.hid hck
          clear hck
          generalize hz : sz i = z at ha
          have HZ := Lib.hid hz; clear hz
          by_cases e1 : z = j + 1
          · have hb1 : ((z : Int) == (j : Int) + 1) = true := by rw [beq_iff_eq]; omega
            have hz' : sz i = j + 1 := HZ.out.trans e1
            have HZ2 := Lib.hid hz'; clear hz'
            have hcode : code i = x := by rw [HX.out]; unfold code; rw [← rank_eq hi, HZ2.out]
            have HCO := Lib.hid hcode; clear hcode e1
            go_wp2_with fail
            have hxx : (x : Int) + 1 = ((x + 1 : Nat) : Int) := by simp
            refine ⟨⟨i + 1, x + 1, by go_num, by go_num, by omega, ?_, ?_, hB.setCell (Nat.le_refl _) _, by simpa using hlt⟩, by simp [intOf]; omega⟩
            · rw [HX.out, ← HZ2.out, cnt_same hi]; omega
            · refine (HCK.out.set i x).alike (fun q hq => ?_)
              by_cases e : q = i
              · subst e
                rw [if_pos rfl, if_pos (Or.inr ⟨HZ2.out, by omega⟩), HCO.out]
              · rw [if_neg e]
                by_cases e2 : sz q < j + 1 ∨ (sz q = j + 1 ∧ q < i)
                · rw [if_pos e2, if_pos (by rcases e2 with h | h; exact Or.inl h; exact Or.inr ⟨h.1, by omega⟩)]
                · rw [if_neg e2, if_neg (fun h => e2 (by rcases h with h | h; exact Or.inl h; exact Or.inr ⟨h.1, by omega⟩))]
          · have hb1 : ((z : Int) == (j : Int) + 1) = false := by rw [beq_eq_false_iff_ne]; omega
            have hzn : sz i ≠ j + 1 := by rw [HZ.out]; exact e1
            have HZN := Lib.hid hzn; clear hzn e1
            go_wp2_with fail
            refine ⟨⟨i + 1, x, by go_num, rfl, by omega, ?_, ?_, hB, hlt⟩, by simp [intOf]; omega⟩
            · rw [HX.out, cnt_other hi (fun h => HZN.out h.symm)]
            · refine HCK.out.alike (fun q hq => ?_)
              by_cases e2 : sz q < j + 1 ∨ (sz q = j + 1 ∧ q < i)
              · rw [if_pos e2, if_pos (by rcases e2 with h | h; exact Or.inl h; exact Or.inr ⟨h.1, by omega⟩)]
              · rw [if_neg e2, if_neg (fun h => e2 (by
                  rcases h with h | h
                  · exact Or.inl h
                  · refine Or.inr ⟨h.1, ?_⟩
                    have : q ≠ i := fun e => HZN.out (e ▸ h.1)
                    omega))]
        · obtain rfl : i = 257 := by omega
          have hxe : x = fst (j + 1) + num (j + 1) := by rw [HX.out, num_all (j + 1) (by omega)]
          have HE := Lib.hid hxe
          have HCK := Lib.hid hck
          clear hxe hi hck
          go_wp2
          refine ⟨⟨j + 1, x, by go_num, rfl, by omega, by omega, HE.out, ?_, hB, hlt⟩, by simp [intOf]; omega⟩
          refine HCK.out.alike (fun q hq => ?_)
          by_cases e2 : sz q ≤ j + 1
          · rw [if_pos e2, if_pos (by rcases Nat.lt_or_eq_of_le e2 with h | h; exact Or.inl h; exact Or.inr ⟨h, hq⟩)]
          · rw [if_neg e2, if_neg (fun h => e2 (by rcases h with h | h; exact Nat.le_of_lt h; exact Nat.le_of_eq h.1))]
    · obtain rfl : j = 30 := by omega
      rw [show (((30 : Nat) : Int) + 1) = 31 from rfl]
      go_wp2_with fail
      go_ret
      exact ⟨rfl, hck.alike (fun i hi => by rw [if_pos (sz_hi hi)]), hB, hlt⟩
end Go.Proofs.YtlkieeindnpidaaDoor.Hu

namespace Go.Proofs.YtlkieeindnpidaaDoor.Hu
open Go.RowKit Hf

/-- The outer loop's rounds. -/
def EnrRel (S : ByteArray) (b : Nat) (W2 : World) (s5 s6 s7 s8 : Value) (wr : World) : Prop := ∃ (k x : Nat) (ad : Option Addr) (N c : Nat), s8 = .int .i64 (k : Int) ∧ k ≤ S.size ∧ s5 = .slice ad N c ∧ Own wr (b + 1) (.slice ad N c) (top (totT ((str S).take k)) (totN ((str S).take k)) (totN ((str S).take k) / 8)) ∧
  s6 = .int .u64 (x : Int) ∧ x = totT ((str S).take k) % 2 ^ (totN ((str S).take k) % 8) ∧ s7 = .int .i64 ((totN ((str S).take k) % 8 : Nat) : Int) ∧ Ck wr b code ∧ Below (b + 1) W2 wr
/-- The inner loop's rounds: n bits wait. -/
def EnrIn (b : Nat) (W2 : World) (T1 N1 n1 : Nat) (s5 s6 s7 : Value) (wr : World) : Prop := ∃ (q n x : Nat) (ad : Option Addr) (N c : Nat), s7 = .int .i64 (n : Int) ∧ n ≤ n1 ∧ 8 * q + n = N1 ∧ s5 = .slice ad N c ∧ Own wr (b + 1) (.slice ad N c) (top T1 N1 q) ∧ s6 = .int .u64 (x : Int) ∧ x = T1 % 2 ^ n ∧ Ck wr b code ∧ Below (b + 1) W2 wr
theorem pow37 {n : Nat} (h : n ≤ 37) : 2 ^ n ≤ 137438953472 := by
  have := Nat.pow_le_pow_right (n := 2) (by decide) h
  simpa using this

theorem mod_step {T r z c : Nat} (hc : c < 2 ^ z) : (T % 2 ^ r) * 2 ^ z + c = (T * 2 ^ z + c) % 2 ^ (r + z) := by
  have key : ∀ a : Nat, (2 ^ z * a + c) % 2 ^ (r + z) = 2 ^ z * (a % 2 ^ r) + c := by
    intro a
    rw [show r + z = z + r by omega, Nat.pow_add, Nat.mod_mul, Nat.mul_add_mod, Nat.mod_eq_of_lt hc, Nat.mul_add_div (Nat.two_pow_pos z), Nat.div_eq_of_lt hc, Nat.add_zero, Nat.add_comm]
  rw [Nat.mul_comm T, key, Nat.mul_comm]
theorem mask_and (y m : Nat) (hy : y < 137438953472) (hm : m ≤ 29) : bits .and .u64 (y : Int) (IntKind.u64.wrap (IntKind.u64.wrap (2 ^ m) - 1)) = ((y % 2 ^ m : Nat) : Int) := by
  have hp : 1 ≤ 2 ^ m ∧ 2 ^ m ≤ 536870912 := ⟨Nat.one_le_two_pow, by have := Nat.pow_le_pow_right (n := 2) (by decide) hm; simpa using this⟩
  have hw : IntKind.u64.wrap (IntKind.u64.wrap (2 ^ m) - 1) = ((2 ^ m - 1 : Nat) : Int) := by
    rw [show ((2 : Int) ^ m) = ((2 ^ m : Nat) : Int) by simp, IntKind.wrap_u64, IntKind.wrap_u64]
    omega
  rw [hw, u64_and_nat _ _ (by omega) (by omega), Nat.and_two_pow_sub_one_eq_mod]
theorem pad_or (x r : Nat) (h1 : 1 ≤ r) (h8 : r < 8) (hx : x < 2 ^ r) : bits .or .u8 (IntKind.u64.wrap ((x : Int) * 2 ^ (8 - r)) % 256) (255 / 2 ^ r) = ((x * 2 ^ (8 - r) + (2 ^ (8 - r) - 1) : Nat) : Int) := by
  have key : ∀ f : Nat, f ≤ 7 → x * 2 ^ f < 256 → bits .or .u8 (IntKind.u64.wrap ((x : Int) * 2 ^ f) % 256) (((2 ^ f - 1 : Nat)) : Int) = ((x * 2 ^ f + (2 ^ f - 1) : Nat) : Int) := by
    intro f hf hlt
    have hp := Nat.two_pow_pos f
    have hp2 := Nat.pow_le_pow_right (n := 2) (by decide) hf
    have e7 : (2 : Nat) ^ 7 = 128 := by decide
    have hj := nat_join f (x * 2 ^ f) (2 ^ f - 1) (by simp) (by omega)
    have hw : IntKind.u64.wrap ((x : Int) * 2 ^ f) % 256 = ((x * 2 ^ f : Nat) : Int) := by
      rw [IntKind.wrap_u64, show ((x : Int) * 2 ^ f) = ((x * 2 ^ f : Nat) : Int) by simp]
      generalize x * 2 ^ f = y at hlt
      omega
    rw [hw, u8_or_nat _ _ hlt (by omega), hj]
  have hlt : x * 2 ^ (8 - r) < 256 := by
    have h := Nat.mul_lt_mul_of_pos_right hx (Nat.two_pow_pos (8 - r))
    rw [← Nat.pow_add, show r + (8 - r) = 8 by omega] at h
    simpa using h
  rw [← key (8 - r) (by omega) hlt]
  congr 1
  have hr : r = 1 ∨ r = 2 ∨ r = 3 ∨ r = 4 ∨ r = 5 ∨ r = 6 ∨ r = 7 := by omega
  rcases hr with rfl | rfl | rfl | rfl | rfl | rfl | rfl <;> rfl
theorem or_join {x z c : Nat} (hx : x < 128) (hz : z ≤ 30) (hc : c < 2 ^ z) : bits .or .u64 (IntKind.u64.wrap ((x : Int) * 2 ^ z)) ((c : Nat) : Int) = ((x * 2 ^ z + c : Nat) : Int) := by
  have hp : 2 ^ z ≤ 1073741824 := by have := Nat.pow_le_pow_right (n := 2) (by decide) hz; simpa using this
  have hm : x * 2 ^ z ≤ 128 * 1073741824 := Nat.mul_le_mul (by omega) hp
  have hw : IntKind.u64.wrap ((x : Int) * 2 ^ z) = ((x * 2 ^ z : Nat) : Int) := by
    rw [IntKind.wrap_u64, show ((x : Int) * 2 ^ z) = ((x * 2 ^ z : Nat) : Int) by simp]
    generalize x * 2 ^ z = y at hm
    omega
  have hj := nat_join z (x * 2 ^ z) c (by simp) hc
  rw [hw, u64_or_nat _ _ (by generalize x * 2 ^ z = y at hm; omega) (by omega), hj]

set_option maxRecDepth 100000 in
set_option maxHeartbeats 4000000 in
theorem encoder_any (S : ByteArray) (hS : S.size ≤ 1048576) (w : World) : Calls Tryd.prog 48 #[.string S] w (Built (enc (str S)) w) := by
  have hNS := totN_le (str S)
  rw [str_len] at hNS
  generalize hNT : totN (str S) = NT at hNS
  have HNT := Lib.hid hNT; clear hNT
  go_enter Tryd.func48, Tryd.ntmps48
  go_wp2_with fail
  refine (codesr_any _).mono ?_
  rintro e W2 ⟨rfl, hck, hbl, hlt2⟩
  go_wp2_with fail
  refine (lengths_any _).mono ?_
  rintro e w2 ⟨rfl, rfl⟩
  have HNS := Lib.hid hNS; clear hNS
  have HBL := Lib.hid (And.intro hbl hlt2)
  generalize hbb : w.heap.size = b at hck hlt2
  have HBB := Lib.hid hbb; clear hbb hbl
  go_wp2_with fail
  go_loopw [5, 6, 7, 8] (fun s5 s6 s7 s8 wr => EnrRel S b W2 s5 s6 s7 s8 wr) (fun _ _ _ s8 _ => S.size - (intOf s8).toNat)
  case atStart => exact ⟨0, 0, none, 0, 0, rfl, by omega, rfl, by simpa [totN, top] using Own.nil _ _, rfl, by simp [totN, totT], by simp [totN], hck, Below.refl _ _⟩
  case round =>
    obtain ⟨k, x, ad, N, c, rfl, hk, rfl, hown, rfl, hx, rfl, hbk, hB⟩ := hrel
    have HX := Lib.hid hx; clear hx hck
    by_cases hlt : k < S.size
    · have ht := str_take S hlt
      have hN := totN_snoc ((str S).take k) S[k]
      have hT := totT_snoc ((str S).take k) S[k]
      rw [← ht] at hN hT
      have hle : totN ((str S).take (k + 1)) ≤ 30 * S.size := Nat.le_trans (totN_le _) (Nat.mul_le_mul_left _ (by rw [List.length_take, str_len]; exact Nat.min_le_right _ _))
      have hx256 : S[k].toNat < 256 := S[k].toNat_lt
      have hz1 := sz_lo (b257 S[k])
      have hz := sz_hi (b257 S[k])
      have hcl2 := code_le (b257 S[k])
      have q1 := hbk.c S[k].toNat (b257 _)
      have ha := lets_all S[k].toNat (b257 _)
      have hsl : S[k].toNat < lets.size := by rw [lets_size]; exact b257 _
      have HC := Lib.hid (code_lt (b257 S[k]))
      clear ht
      generalize sz S[k].toNat = z at hN hT hz1 hz ha HC
      generalize code S[k].toNat = cd at hT hcl2 q1 HC
      generalize hN1e : totN ((str S).take (k + 1)) = N1 at hN hle
      generalize hT1e : totT ((str S).take (k + 1)) = T1 at hT
      have HE := Lib.hid (And.intro hN1e hT1e); clear hN1e hT1e
      generalize totN ((str S).take k) = N0 at hown HX hN hT ⊢
      generalize totT ((str S).take k) = T0 at hown HX hT ⊢
      have HT := Lib.hid hT; clear hT
      have HN := Lib.hid hN
      have hi0 : (0 : Int) ≤ ((S[k].toNat : Nat) : Int) := by omega
      have hi1 : ((S[k].toNat : Nat) : Int) < 257 := by omega
      have hn8 : N0 % 8 < 8 := Nat.mod_lt _ (by decide)
      generalize hr : N0 % 8 = r at HX hn8 ⊢
      have HR := Lib.hid hr; clear hr
      have HN8 := Lib.hid hn8
      have hn1 : r + z ≤ 37 := by omega
      have HN1 := Lib.hid hn1
      have HL := Lib.hid hle
      clear hN hle hx256 hz1 hn8 hn1
      go_wp2_with fail
      have hx128 : x < 128 := by
        have h1 := HX.out
        have h2 : T0 % 2 ^ r < 2 ^ r := Nat.mod_lt _ (Nat.two_pow_pos _)
        have h3 := Nat.pow_le_pow_right (n := 2) (by decide) (show r ≤ 7 by have := HN8.out; omega)
        have e7 : (2 : Nat) ^ 7 = 128 := by decide
        omega
      rw [or_join hx128 hz HC.out]
      have hy : x * 2 ^ z + cd = T1 % 2 ^ (r + z) := by rw [HX.out, HT.out]; exact mod_step HC.out
      generalize x * 2 ^ z + cd = y at hy ⊢
      have HY := Lib.hid hy; clear hy
      have hn1 := HN1.out
      have hN1 : 8 * (N0 / 8) + (r + z) = N1 := by have := HN.out; have := HR.out; omega
      have hown3 : Own wr (b + 1) (.slice ad N c) (top T1 N1 (N0 / 8)) := by
        rw [HT.out, HN.out, top_shift _ _ _ _ _ HC.out (by omega)]; exact hown
      clear hown
      generalize hn1e : r + z = n1 at hn1 hN1 HY
      have hs6 : (r : Int) + (z : Int) = (n1 : Int) := by omega
      rw [hs6, IntWalk.wrap64_in (n1 : Int) (by omega)]
      generalize N0 / 8 = q0 at hN1 hown3
      clear hs6 hn1e hx128
      go_wp2
      go_loopw [5, 6, 7] (fun s5 s6 s7 wr => EnrIn b W2 T1 N1 n1 s5 s6 s7 wr) (fun _ _ s7 _ => (intOf s7).toNat)
      case atStart => exact ⟨q0, n1, y, ad, N, c, rfl, Nat.le_refl _, hN1, rfl, hown3, rfl, HY.out, hbk, hB⟩
      case round =>
        obtain ⟨q, n, y, ad, N, c, rfl, hn, hqn, rfl, hown, rfl, hy, hbk, hB⟩ := hrel
        have hyl : y < 137438953472 := by
          have h1 := pow37 (show n ≤ 37 by omega)
          have h2 : T1 % 2 ^ n < 2 ^ n := Nat.mod_lt _ (Nat.two_pow_pos _)
          omega
        have HY2 := Lib.hid hy; clear hy
        by_cases h8 : 8 ≤ n
        · obtain ⟨m, rfl⟩ : ∃ m, n = m + 8 := ⟨n - 8, by omega⟩
          have hlow : y / 2 ^ m % 256 = T1 / 2 ^ m % 256 := low_div (by rw [HY2.out, Nat.mod_mod])
          have HBY : Hid ((((y : Int) / 2 ^ m) % 256) = (((UInt8.ofNat (T1 / 2 ^ m)).toNat : Nat) : Int)) := Lib.hid (by
            rw [ofNat_toNat', ← hlow]
            simp)
          clear hlow
          have hzr := hB.size
          have hN37 : N1 ≤ 32000000 := by have := HL.out; omega
          have hql : q ≤ 32000000 := by omega
          have HTL := Lib.hid (top_length T1 N1 q)
          have hm37 : m ≤ 29 := by omega
          have hbz : b + 1 ≤ wr.heap.size := by omega
          go_wp2_with (at_builtin; (refine wp_append_bytes rfl _ _ rfl _ (top T1 N1 q) [UInt8.ofNat (T1 / 2 ^ m)] rfl (b + 1) (hown.alloc _) (some ⟨wr.heap.size, 0, none⟩) 1 1 rfl (sl_new1 _ _ _ HBY.out) (by rw [HTL.out]; omega) (by simp; omega) ?_); intro w4 ad4 N4 c4 hN4 hown4 hb4)
          rw [mask_and y m hyl hm37]
          refine ⟨⟨q + 1, m, y % 2 ^ m, ad4, N4, c4, rfl, by omega, by omega, rfl, ?_, rfl, ?_, ?_, (hB.alloc hbz _).trans hb4⟩, by simp [intOf]; omega⟩
          · rw [top_succ, show N1 - 8 * (q + 1) = m by omega]; exact hown4
          · rw [HY2.out, Nat.mod_mod_of_dvd _ (Nat.pow_dvd_pow 2 (by omega))]
          · exact hbk.kept (((Below.refl _ _).alloc hbz _).trans hb4)
        · have hq : q = N1 / 8 := by omega
          have hnm : n = N1 % 8 := by omega
          subst hq hnm
          go_wp2
          refine ⟨?_, by simp [intOf]; omega⟩
          unfold EnrRel
          refine ⟨k + 1, y, ad, N, c, by go_num, by omega, rfl, ?_, rfl, ?_, ?_, hbk, hB⟩
          · rw [HE.out.1, HE.out.2]; exact hown
          · rw [HE.out.1, HE.out.2]; exact HY2.out
          · rw [HE.out.1]
    · obtain rfl : k = S.size := by omega
      rw [List.take_of_length_le (Nat.le_of_eq (str_len S))] at hown HX ⊢
      have hNT := HNT.out
      rw [hNT] at hown HX ⊢
      have HU : Hid (enc (str S) = padB (totT (str S)) NT) := Lib.hid (by unfold enc; rw [hNT])
      generalize totT (str S) = T0 at hown HX HU
      clear hNT
      have hzr := hB.size
      have HBw : Hid (Below w.heap.size w wr) := Lib.hid (HBL.out.1.trans (hB.mono (by rw [HBB.out]; omega)))
      by_cases h0 : NT % 8 = 0
      · have HU2 : Hid (enc (str S) = top T0 NT (NT / 8)) := Lib.hid (by rw [HU.out, padB_whole h0])
        have HOW := Lib.hid hown
        rw [h0]
        clear hown HX h0
        go_wp2
        go_ret
        refine ⟨_, _, _, rfl, ?_, ?_, HBw.out⟩
        · rw [HU2.out]; exact Lib.hid HOW.out.len
        · rw [HU2.out]; exact HOW.out.mono (by rw [HBB.out]; omega)
      · have hn8 : NT % 8 < 8 := Nat.mod_lt _ (by decide)
        have HU2 : Hid (enc (str S) = top T0 NT (NT / 8) ++ [UInt8.ofNat (T0 * 2 ^ (8 - NT % 8) + (2 ^ (8 - NT % 8) - 1))]) := Lib.hid (by rw [HU.out, padB_pad (f := 8 - NT % 8) rfl h0 (by omega)])
        generalize NT % 8 = r at h0 hn8 HX HU2 ⊢
        have hql : (top T0 NT (NT / 8)).length + 1 ≤ 140737488355328 := by rw [top_length]; have := HNS.out; omega
        have hbz : b + 1 ≤ wr.heap.size := by omega
        have HP : Hid (bits .or .u8 (IntKind.u64.wrap ((x : Int) * 2 ^ (8 - r)) % 256) (255 / 2 ^ r) = (((UInt8.ofNat (T0 * 2 ^ (8 - r) + (2 ^ (8 - r) - 1))).toNat : Nat) : Int)) := Lib.hid (by
          have hc : 2 ^ (8 - r) - 1 < 2 ^ (8 - r) := by have := Nat.two_pow_pos (8 - r); omega
          have hm := mod_step (T := T0) (r := r) hc
          rw [← HX.out, show r + (8 - r) = 8 by omega] at hm
          rw [ofNat_toNat', show (256 : Nat) = 2 ^ 8 by decide, ← hm]
          exact pad_or x r (by omega) hn8 (by rw [HX.out]; exact Nat.mod_lt _ (Nat.two_pow_pos _)))
        clear hzr hk HX hlt HU
        have hr0 : 0 < r := by omega
        go_wp2_with (at_builtin; (refine wp_append_bytes rfl _ _ rfl _ (top T0 NT (NT / 8)) [UInt8.ofNat (T0 * 2 ^ (8 - r) + (2 ^ (8 - r) - 1))] rfl (b + 1) (hown.alloc _) (some ⟨wr.heap.size, 0, none⟩) 1 1 rfl (sl_new1 _ _ _ HP.out) hql (by simp; omega) ?_); intro w4 ad4 N4 c4 hN4 hown4 hb4)
        go_ret
        have hbw := HBB.out
        refine ⟨_, _, _, rfl, by rw [HU2.out]; exact hN4, by rw [HU2.out]; exact hown4.mono (by omega), ?_⟩
        exact HBw.out.trans (((Below.refl _ _).alloc (by omega) _).trans (hb4.mono (by omega)))
end Go.Proofs.YtlkieeindnpidaaDoor.Hu

namespace Go.Proofs.YtlkieeindnpidaaDoor.Hu
open Go.RowKit
namespace Hf

theorem fst_far : ∀ (j n : Nat), n + j + 1 < 31 → (fst n + num n) * 2 ^ (j + 1) ≤ fst (n + j + 1)
  | 0, n, h => by rw [Nat.add_zero, fst_all n (by omega)]; simp
  | j + 1, n, h => by
    have h1 := fst_far j n (by omega)
    have h2 := fst_all (n + j + 1) (by omega)
    rw [show n + (j + 1) + 1 = n + j + 1 + 1 by omega, h2, Nat.pow_succ, ← Nat.mul_assoc]
    exact Nat.mul_le_mul_right 2 (Nat.le_trans h1 (Nat.le_add_right _ _))
theorem apart {a b : Nat} (ha : a < 257) (hb : b < 257) (hne : a ≠ b) (hle : sz a ≤ sz b) : code b / 2 ^ (sz b - sz a) ≠ code a := by
  have hra := rank_num a ha
  have hrb := rank_num b hb
  have hzb := sz_hi hb
  rcases Nat.lt_or_ge (sz a) (sz b) with h | h
  · obtain ⟨j, hj⟩ : ∃ j, sz b = sz a + j + 1 := ⟨sz b - sz a - 1, by omega⟩
    have hf := fst_far j (sz a) (by omega)
    rw [← hj] at hf
    have hge : fst (sz a) + num (sz a) ≤ code b / 2 ^ (sz b - sz a) := by
      rw [Nat.le_div_iff_mul_le (Nat.two_pow_pos _), show sz b - sz a = j + 1 by omega]
      unfold code
      omega
    unfold code at hge ⊢
    omega
  · have he : sz a = sz b := by omega
    rw [he, Nat.sub_self, Nat.pow_zero, Nat.div_one]
    intro hc
    apply hne
    apply pos_inj ha hb
    unfold code at hc
    unfold pos
    rw [he] at hc ⊢
    omega
/-- The room that the first k codes take. -/
def room : Nat → Nat
  | 0 => 0
  | k + 1 => room k + 2 ^ (30 - sz k)
theorem room_all : room 257 = 1073741824 := by decide +kernel
theorem room_le : ∀ k, room k ≤ k * 1073741824
  | 0 => by simp [room]
  | k + 1 => by
    have h := room_le k
    have h2 : 2 ^ (30 - sz k) ≤ 2 ^ 30 := Nat.pow_le_pow_right (by decide) (by omega)
    have e : (2 : Nat) ^ 30 = 1073741824 := by decide
    unfold room
    omega
end Hf
end Go.Proofs.YtlkieeindnpidaaDoor.Hu

namespace Go.Proofs.YtlkieeindnpidaaDoor.Hu
open Go.RowKit
namespace Hf

theorem totT_app : ∀ (m l : List UInt8), ∃ x, x < 2 ^ totN m ∧ totT (l ++ m) = totT l * 2 ^ totN m + x
  | [], l => ⟨0, by simp [totN], by simp [totN]⟩
  | c :: m, l => by
    obtain ⟨x, hx, he⟩ := totT_app m (l ++ [c])
    refine ⟨code c.toNat * 2 ^ totN m + x, ?_, ?_⟩
    · have hc := code_lt (b257 c)
      have h1 : (code c.toNat + 1) * 2 ^ totN m ≤ 2 ^ sz c.toNat * 2 ^ totN m := Nat.mul_le_mul_right _ hc
      rw [← Nat.pow_add, Nat.add_mul] at h1
      simp only [totN]
      omega
    · rw [show l ++ c :: m = l ++ [c] ++ m by simp, he, totT_snoc]
      simp only [totN]
      rw [Nat.pow_add, Nat.add_mul, Nat.mul_assoc, Nat.add_assoc]
theorem take_top {T N j k : Nat} (h : k ≤ j) : (top T N j).take k = top T N k := by
  unfold top
  rw [← List.map_take, List.take_range, Nat.min_eq_left h]
theorem take_padB {T N k : Nat} (h : 8 * k ≤ N) : (padB T N).take k = top T N k := by
  by_cases h0 : N % 8 = 0
  · rw [padB_whole h0, take_top (by omega)]
  · unfold padB
    rw [if_neg h0, take_top (by omega), top_shift _ _ _ _ _ (by have := Nat.two_pow_pos (8 - N % 8); omega) h]
/-- The first whole bytes of the code of two texts are those of the first one's. -/
theorem enc_prefix (l m : List UInt8) : (enc (l ++ m)).take (totN l / 8) = (enc l).take (totN l / 8) := by
  obtain ⟨x, hx, he⟩ := totT_app m l
  unfold enc
  rw [take_padB (by rw [totN_app]; omega), take_padB (by omega), he, totN_app, top_shift _ _ _ _ _ hx (by omega)]
end Hf
end Go.Proofs.YtlkieeindnpidaaDoor.Hu

namespace Go.Proofs.YtlkieeindnpidaaDoor.Hu
open Go.RowKit
namespace Hf

/-- The number that m bits are, from the s-th on. -/
def chunk (b : List UInt8) (s : Nat) : Nat → Nat
  | 0 => 0
  | m + 1 => 2 * chunk b s m + bit b (s + m)
theorem chunk_lt (b : List UInt8) (s : Nat) : ∀ m, chunk b s m < 2 ^ m
  | 0 => by simp [chunk]
  | m + 1 => by
    have h := chunk_lt b s m
    have h2 := bit_lt b (s + m)
    rw [chunk, Nat.pow_succ]
    omega
theorem chunk_add (b : List UInt8) (s j : Nat) : ∀ m, chunk b s (j + m) = chunk b s j * 2 ^ m + chunk b (s + j) m
  | 0 => by simp [chunk]
  | m + 1 => by
    rw [← Nat.add_assoc, chunk, chunk_add b s j m, chunk, Nat.pow_succ, Nat.mul_add, ← Nat.add_assoc s]
    have : 2 * (chunk b s j * 2 ^ m) = chunk b s j * (2 ^ m * 2) := by rw [Nat.mul_comm 2, Nat.mul_assoc]
    omega
theorem chunk_pre (b : List UInt8) (s j m : Nat) : chunk b s (j + m) / 2 ^ m = chunk b s j := by
  rw [chunk_add, Nat.mul_comm, Nat.mul_add_div (Nat.two_pow_pos m), Nat.div_eq_of_lt (chunk_lt _ _ _), Nat.add_zero]
theorem chunk_suf (b : List UInt8) (s j m : Nat) : chunk b s (j + m) % 2 ^ m = chunk b (s + j) m := by
  rw [chunk_add, Nat.mul_comm, Nat.mul_add_mod, Nat.mod_eq_of_lt (chunk_lt _ _ _)]

theorem bits8 : ∀ x, x < 256 → 2 * (2 * (2 * (2 * (2 * (2 * (2 * (x / 128 % 2) + x / 64 % 2) + x / 32 % 2) + x / 16 % 2) + x / 8 % 2) + x / 4 % 2) + x / 2 % 2) + x % 2 = x := by
  intro x h
  omega
/-- Eight bits are a byte. -/
theorem chunk_byte (b : List UInt8) (j : Nat) : chunk b (8 * j) 8 = (b.getD j 0).toNat := by
  have h := bits8 (b.getD j 0).toNat (b.getD j 0).toNat_lt
  have e : ∀ k, k < 8 → bit b (8 * j + k) = (b.getD j 0).toNat / 2 ^ (7 - k) % 2 := by
    intro k hk
    unfold bit
    rw [show (8 * j + k) / 8 = j by omega, show (8 * j + k) % 8 = k by omega]
  simp only [chunk, e 0 (by omega), e 1 (by omega), e 2 (by omega), e 3 (by omega), e 4 (by omega), e 5 (by omega), e 6 (by omega), e 7 (by omega)]
  simp only [Nat.reduceSub, Nat.reducePow, Nat.div_one, Nat.mul_zero, Nat.zero_add]
  exact h
/-- The bytes of all bits. -/
theorem top_chunk (b : List UInt8) : top (chunk b 0 (8 * b.length)) (8 * b.length) b.length = b := by
  apply List.ext_getElem
  · rw [top_length]
  · intro j h1 h2
    simp only [top, List.getElem_map, List.getElem_range]
    have e := chunk_pre b 0 (8 * (j + 1)) (8 * b.length - 8 * (j + 1))
    rw [show 8 * (j + 1) + (8 * b.length - 8 * (j + 1)) = 8 * b.length by omega] at e
    rw [e]
    apply UInt8.toNat_inj.1
    have e2 := chunk_suf b 0 (8 * j) 8
    rw [show 8 * j + 8 = 8 * (j + 1) by omega, Nat.zero_add, chunk_byte] at e2
    rw [ofNat_toNat', show (256 : Nat) = 2 ^ 8 by decide, e2, List.getD_eq_getElem?_getD, List.getElem?_eq_getElem h2]
    rfl
theorem bit_top (X k j q : Nat) (hj : j < k) (hq : q < 8) : bit (top X (8 * k) k) (8 * j + q) = X / 2 ^ (8 * k - (8 * j + q + 1)) % 2 := by
  unfold bit
  have e1 : (8 * j + q) / 8 = j := by omega
  have e2 : (8 * j + q) % 8 = q := by omega
  rw [e1, e2, List.getD_eq_getElem?_getD, List.getElem?_eq_getElem (by rw [top_length]; exact hj)]
  simp only [Option.getD_some, top, List.getElem_map, List.getElem_range]
  rw [ofNat_toNat']
  rw [show (256 : Nat) = 2 ^ (7 - q) * 2 ^ (q + 1) by rw [← Nat.pow_add, show 7 - q + (q + 1) = 8 by omega]]
  rw [Nat.mod_mul_right_div_self, Nat.div_div_eq_div_mul, ← Nat.pow_add, show 8 * k - 8 * (j + 1) + (7 - q) = 8 * k - (8 * j + q + 1) by omega]
  rw [Nat.pow_succ]
  exact Nat.mod_mod_of_dvd _ (Nat.dvd_mul_left _ _)
/-- All bits of bytes that a number makes. -/
theorem chunk_top (X k : Nat) : ∀ m, m ≤ 8 * k → chunk (top X (8 * k) k) 0 m = X / 2 ^ (8 * k - m) % 2 ^ m
  | 0, _ => by simp [chunk, Nat.mod_one]
  | m + 1, h => by
    rw [chunk, chunk_top X k m (by omega), Nat.zero_add]
    have hb := bit_top X k (m / 8) (m % 8) (by omega) (by omega)
    rw [show 8 * (m / 8) + m % 8 = m by omega] at hb
    rw [hb]
    have e : X / 2 ^ (8 * k - m) = X / 2 ^ (8 * k - (m + 1)) / 2 := by
      rw [Nat.div_div_eq_div_mul, ← Nat.pow_succ, show (8 * k - (m + 1)).succ = 8 * k - m by omega]
    rw [e, Nat.pow_succ, Nat.mul_comm (2 ^ m) 2, Nat.mod_mul, Nat.add_comm]

/-- Bits in which no code ends. -/
theorem says_run (b : List UInt8) (s r : Nat) (out : List UInt8) : ∀ j, (∀ m, 1 ≤ m → m ≤ j → sym (chunk b s m) m = none) → says b (r + j) s 0 0 out = says b r (s + j) (chunk b s j) j out
  | 0, _ => rfl
  | j + 1, h => by
    have key : ∀ (q r' : Nat), q ≤ j → says b (r' + (j - q) + 1) (s + q) (chunk b s q) q out = says b (r' + (j - q)) (s + (q + 1)) (chunk b s (q + 1)) (q + 1) out := by
      intro q r' hq
      have hn := h (q + 1) (by omega) (by omega)
      rw [says]
      rw [show 2 * chunk b s q + bit b (s + q) = chunk b s (q + 1) by rw [chunk], hn]
      simp only [Nat.add_assoc]
    have h1 := says_run b s (r + 1) out j (fun m h1 h2 => h m h1 (by omega))
    rw [show r + (j + 1) = r + 1 + j by omega, h1]
    have := key j r (Nat.le_refl _)
    simp only [Nat.sub_self, Nat.add_zero] at this
    exact this
theorem says_one (b : List UInt8) (s r q z : Nat) (out : List UInt8) (hz : 1 ≤ z) (h : ∀ m, 1 ≤ m → m < z → sym (chunk b s m) m = none) (hs : sym (chunk b s z) z = some q) (hq : q ≠ 256) :
    says b (r + z) s 0 0 out = says b r (s + z) 0 0 (out ++ [UInt8.ofNat q]) := by
  obtain ⟨y, rfl⟩ : ∃ y, z = y + 1 := ⟨z - 1, by omega⟩
  rw [show r + (y + 1) = r + 1 + y by omega, says_run b s (r + 1) out y (fun m h1 h2 => h m h1 (by omega)), says]
  rw [show 2 * chunk b s y + bit b (s + y) = chunk b s (y + 1) by rw [chunk], hs]
  simp only [if_neg hq, Nat.add_assoc]
/-- No code is ahead in a code. -/
theorem sym_ahead {c m : Nat} (hc : c < 257) (hm : m < sz c) : sym (code c / 2 ^ (sz c - m)) m = none := by
  have hz := sz_hi hc
  obtain ⟨j, hj⟩ : ∃ j, sz c = m + j + 1 := ⟨sz c - m - 1, by omega⟩
  have hf := fst_far j m (by omega)
  rw [← hj] at hf
  have hge : fst m + num m ≤ code c / 2 ^ (sz c - m) := by
    rw [Nat.le_div_iff_mul_le (Nat.two_pow_pos _), show sz c - m = j + 1 by omega]
    unfold code
    omega
  unfold sym
  rw [if_neg (by omega)]
theorem ones_none : ∀ m, m < 8 → sym (2 ^ m - 1) m = none := by decide +kernel

/-- All bits of a text's code: the codes, and 1s behind. -/
def full (l : List UInt8) : Nat := (8 - totN l % 8) % 8
theorem full_lt (l : List UInt8) : full l < 8 := Nat.mod_lt _ (by decide)
theorem full_len (l : List UInt8) : totN l + full l = 8 * ((totN l + 7) / 8) := by unfold full; omega
theorem enc_top (l : List UInt8) : enc l = top (totT l * 2 ^ full l + (2 ^ full l - 1)) (8 * ((totN l + 7) / 8)) ((totN l + 7) / 8) := by
  unfold enc padB
  by_cases h : totN l % 8 = 0
  · have hf : full l = 0 := by unfold full; omega
    rw [if_pos h, hf, show 8 * ((totN l + 7) / 8) = totN l by omega, show (totN l + 7) / 8 = totN l / 8 by omega]
    simp
  · have hf : full l = 8 - totN l % 8 := by unfold full; omega
    rw [if_neg h, hf, show 8 * ((totN l + 7) / 8) = totN l + (8 - totN l % 8) by omega, show (totN l + 7) / 8 = totN l / 8 + 1 by omega]
theorem totT_lt (l : List UInt8) : totT l < 2 ^ totN l := by
  obtain ⟨x, hx, he⟩ := totT_app l []
  simp [totT] at he
  unfold totT
  rw [he]
  exact hx
/-- The first bits of a text's code are a first part's. -/
theorem enc_chunk (l1 l2 : List UInt8) : chunk (enc (l1 ++ l2)) 0 (totN l1) = totT l1 := by
  have hN := totN_app l1 l2
  have hfl := full_len (l1 ++ l2)
  rw [enc_top, chunk_top _ _ _ (by omega)]
  obtain ⟨x, hx, he⟩ := totT_app l2 l1
  have hp := Nat.two_pow_pos (full (l1 ++ l2))
  rw [show 8 * ((totN (l1 ++ l2) + 7) / 8) - totN l1 = full (l1 ++ l2) + totN l2 by omega, Nat.pow_add, ← Nat.div_div_eq_div_mul, he]
  rw [Nat.mul_comm _ (2 ^ full (l1 ++ l2)), Nat.mul_add_div hp, Nat.div_eq_of_lt (show 2 ^ full (l1 ++ l2) - 1 < _ by omega), Nat.add_zero]
  rw [Nat.mul_comm _ (2 ^ totN l2), Nat.mul_add_div (Nat.two_pow_pos _), Nat.div_eq_of_lt hx, Nat.add_zero, Nat.mod_eq_of_lt (totT_lt l1)]
theorem says_enc (l : List UInt8) : ∀ (l2 l1 : List UInt8), l = l1 ++ l2 → says (enc l) (totN l2 + full l) (totN l1) 0 0 l1 = some l
  | [], l1, h => by
    obtain rfl : l1 = l := by rw [h]; simp
    have hc : ∀ m, m ≤ full l1 → chunk (enc l1) (totN l1) m = 2 ^ m - 1 := by
      intro m hm
      have hfl := full_len l1
      have h1 := chunk_suf (enc l1) 0 (totN l1) m
      rw [Nat.zero_add] at h1
      rw [← h1, enc_top, chunk_top _ _ _ (by omega), Nat.pow_add, Nat.mod_mul_left_mod]
      rw [show 8 * ((totN l1 + 7) / 8) - (totN l1 + m) = full l1 - m by omega]
      have e : totT l1 * 2 ^ full l1 + (2 ^ full l1 - 1) = 2 ^ (full l1 - m) * (2 ^ m * totT l1 + (2 ^ m - 1)) + (2 ^ (full l1 - m) - 1) := by
        have hp : 2 ^ full l1 = 2 ^ (full l1 - m) * 2 ^ m := by rw [← Nat.pow_add, show full l1 - m + m = full l1 by omega]
        have h1 := Nat.two_pow_pos m
        have h2 := Nat.two_pow_pos (full l1 - m)
        rw [hp]
        generalize 2 ^ m = B at h1 ⊢
        generalize 2 ^ (full l1 - m) = A at h2 ⊢
        have h3 : A ≤ A * B := Nat.le_mul_of_pos_right _ h1
        have h4 : totT l1 * (A * B) = A * (B * totT l1) := by rw [Nat.mul_comm, Nat.mul_assoc]
        rw [h4, Nat.mul_add, Nat.mul_sub, Nat.mul_one]
        omega
      rw [e, Nat.mul_add_div (Nat.two_pow_pos _), Nat.div_eq_of_lt (show 2 ^ (full l1 - m) - 1 < _ by have := Nat.two_pow_pos (full l1 - m); omega), Nat.add_zero, Nat.mul_add_mod, Nat.mod_eq_of_lt (by have := Nat.two_pow_pos m; omega)]
    have hf := full_lt l1
    have hr := says_run (enc l1) (totN l1) 0 l1 (full l1) (fun m h1 h2 => by rw [hc m h2]; exact ones_none m (by omega))
    simp only [totN, Nat.zero_add] at hr ⊢
    rw [hr, says, hc _ (Nat.le_refl _), if_neg (by omega)]
  | c :: l2, l1, h => by
    have ih := says_enc l l2 (l1 ++ [c]) (by rw [h]; simp)
    have h1 := enc_chunk (l1 ++ [c]) l2
    rw [show l1 ++ [c] ++ l2 = l by rw [h]; simp, totT_snoc, totN_snoc] at h1
    have hc : ∀ m, m ≤ sz c.toNat → chunk (enc l) (totN l1) m = code c.toNat / 2 ^ (sz c.toNat - m) := by
      intro m hm
      have h2 := chunk_pre (enc l) 0 (totN l1 + m) (sz c.toNat - m)
      rw [show totN l1 + m + (sz c.toNat - m) = totN l1 + sz c.toNat by omega, h1] at h2
      have h3 := chunk_suf (enc l) 0 (totN l1) m
      rw [Nat.zero_add, ← h2] at h3
      rw [← h3]
      have hcl := code_lt (b257 c)
      have hp : 2 ^ sz c.toNat = 2 ^ (sz c.toNat - m) * 2 ^ m := by rw [← Nat.pow_add, show sz c.toNat - m + m = sz c.toNat by omega]
      rw [hp, ← Nat.mul_assoc, Nat.mul_comm (totT l1), Nat.mul_assoc, Nat.mul_add_div (Nat.two_pow_pos _), Nat.mul_comm (totT l1), Nat.mul_add_mod, Nat.mod_eq_of_lt]
      rw [Nat.div_lt_iff_lt_mul (Nat.two_pow_pos _), Nat.mul_comm, ← hp]
      exact hcl
    have hz := sz_lo (b257 c)
    have h256 : c.toNat ≠ 256 := by have := c.toNat_lt; omega
    have hs := says_one (enc l) (totN l1) (totN l2 + full l) c.toNat (sz c.toNat) l1 (by omega)
      (fun m h1 h2 => by rw [hc m (by omega)]; exact sym_ahead (b257 c) h2)
      (by rw [hc _ (Nat.le_refl _), Nat.sub_self, Nat.pow_zero, Nat.div_one]; exact sym_code _ (b257 c)) h256
    rw [show totN (c :: l2) + full l = totN l2 + full l + sz c.toNat by simp only [totN]; omega, hs]
    rw [totN_snoc] at ih
    rw [show UInt8.ofNat c.toNat = c by simp]
    exact ih
/-- P2.5: a text's code says it. -/
theorem says_of_enc (l : List UInt8) : saysText (enc l) = some l := by
  unfold saysText
  rw [enc_length, ← full_len]
  have := says_enc l l [] rfl
  simpa [totN] using this

theorem sym_bound {x n s : Nat} (h : sym x n = some s) (hn : n < 31) : s < 257 ∧ code s = x ∧ sz s = n := by
  unfold sym at h
  split at h
  · rename_i hx
    have ha := ahd_le n hn
    simp only [Option.some.injEq] at h
    obtain ⟨h1, h2⟩ := ord_back (ahd n + (x - fst n)) (by omega)
    rw [h] at h1 h2
    have hr := rank_num s h1
    unfold pos at h2
    have hz : sz s = n := by
      rcases Nat.lt_trichotomy (sz s) n with hlt | he | hgt
      · exfalso
        have : ∀ j, sz s + j < 31 → ahd (sz s) + num (sz s) ≤ ahd (sz s + j + 1) ∨ 30 ≤ sz s + j := by
          intro j
          induction j with
          | zero => intro hj; by_cases h30 : sz s < 30; exact Or.inl (by rw [Nat.add_zero, ahd_all _ h30]; exact Nat.le_refl _); exact Or.inr (by omega)
          | succ j ih =>
            intro hj
            by_cases h30 : sz s + (j + 1) < 30
            · left
              rw [ahd_all _ h30]
              rcases ih (by omega) with h | h
              · rw [show sz s + (j + 1) = sz s + j + 1 by omega]; omega
              · omega
            · right; omega
        rcases this (n - sz s - 1) (by omega) with h | h
        · rw [show sz s + (n - sz s - 1) + 1 = n by omega] at h
          omega
        · omega
      · exact he
      · exfalso
        have hz := sz_hi h1
        have : ∀ j, n + j < 31 → ahd n + num n ≤ ahd (n + j + 1) ∨ 30 ≤ n + j := by
          intro j
          induction j with
          | zero => intro hj; by_cases h30 : n < 30; exact Or.inl (by rw [Nat.add_zero, ahd_all _ h30]; exact Nat.le_refl _); exact Or.inr (by omega)
          | succ j ih =>
            intro hj
            by_cases h30 : n + (j + 1) < 30
            · left
              rw [ahd_all _ h30]
              rcases ih (by omega) with h | h
              · rw [show n + (j + 1) = n + j + 1 by omega]; omega
              · omega
            · right; omega
        rcases this (sz s - n - 1) (by omega) with h | h
        · rw [show n + (sz s - n - 1) + 1 = sz s by omega] at h
          omega
        · omega
    refine ⟨h1, ?_, hz⟩
    unfold code
    rw [hz] at h2 ⊢
    omega
  · cases h
/-- What has been read: the codes of what is told, and what waits. -/
theorem says_sound (b : List UInt8) : ∀ (r i c n : Nat) (out u : List UInt8), i + r = 8 * b.length → i = totN out + n → chunk b 0 i = totT out * 2 ^ n + c → c < 2 ^ n → Wait c n → says b r i c n out = some u →
    ∃ n', n' < 8 ∧ 8 * b.length = totN u + n' ∧ chunk b 0 (8 * b.length) = totT u * 2 ^ n' + (2 ^ n' - 1)
  | 0, i, c, n, out, u, h1, h2, h3, h4, _, h => by
    rw [says] at h
    split at h
    · cases h
    · rename_i hh
      simp only [Option.some.injEq] at h
      subst h
      refine ⟨n, by omega, by omega, ?_⟩
      rw [show 8 * b.length = i by omega, h3]
      have : c = 2 ^ n - 1 := by
        rcases Nat.decEq c (2 ^ n - 1) with h' | h'
        · exact absurd (Or.inr h') hh
        · exact h'
      rw [this]
  | r + 1, i, c, n, out, u, h1, h2, h3, h4, hw, h => by
    rw [says] at h
    obtain ⟨w1, w2, w3⟩ := wait_step hw b i
    have hstep : chunk b 0 (i + 1) = totT out * 2 ^ (n + 1) + (2 * c + bit b i) := by
      rw [chunk, Nat.zero_add, h3, Nat.pow_succ, ← Nat.mul_assoc, Nat.mul_comm _ 2]
      omega
    cases hs : sym (2 * c + bit b i) (n + 1) with
    | none =>
      rw [hs] at h
      exact says_sound b r (i + 1) _ (n + 1) out u (by omega) (by omega) hstep w2 (w3 hs) h
    | some s =>
      rw [hs] at h
      simp only at h
      split at h
      · cases h
      · rename_i h256
        obtain ⟨k1, k2, k3⟩ := sym_bound hs w1
        have hb : (UInt8.ofNat s).toNat = s := by rw [ofNat_toNat']; omega
        refine says_sound b r (i + 1) 0 0 _ u (by omega) ?_ ?_ (by simp) wait_zero h
        · rw [totN_snoc, hb, k3]; omega
        · rw [hstep, totT_snoc, hb, k3, k2]; simp
/-- P2.5: what is taken is the code of what it says. -/
theorem enc_of_says {b u : List UInt8} (h : saysText b = some u) : enc u = b := by
  obtain ⟨n, h1, h2, h3⟩ := says_sound b (8 * b.length) 0 0 0 [] u (by omega) (by simp [totN]) (by simp [chunk, totT]) (by simp) wait_zero h
  have hf : full u = n := by unfold full; omega
  rw [enc_top, hf, ← h3, show (totN u + 7) / 8 = b.length by omega, top_chunk]
end Hf
end Go.Proofs.YtlkieeindnpidaaDoor.Hu

namespace Go.Proofs.YtlkieeindnpidaaDoor.Hu
open Go.RowKit Hf

/-- No symbol ahead has that code. -/
def NoneYet (c n i : Nat) : Prop := ∀ j, j < i → ¬ (code j = c ∧ sz j = n)
def SymsRel (c n : Nat) (w : World) (s9 : Value) (wr : World) : Prop := ∃ i : Nat, s9 = .int .i64 (i : Int) ∧ i ≤ 257 ∧ Hid (NoneYet c n i) ∧ w = wr
/-- A symbol's number, or -1. -/
def symI (o : Option Nat) : Int := match o with
  | some s => (s : Int)
  | none => -1
theorem sym_of {i c n : Nat} (hi : i < 257) (h1 : code i = c) (h2 : sz i = n) : sym c n = some i := by
  subst h1 h2
  exact sym_code i hi
theorem sym_no {c n : Nat} (hn : n < 31) (h : NoneYet c n 257) : sym c n = none := by
  cases hs : sym c n with
  | none => rfl
  | some s =>
    obtain ⟨h1, h2, h3⟩ := sym_bound hs hn
    exact absurd ⟨h2, h3⟩ (h s h1)
def SymrPost (c n : Nat) (w : World) (e : Ending) (w' : World) : Prop := e = .returned (.int .i64 (symI (sym c n))) ∧ w = w'
set_option maxRecDepth 100000 in
set_option maxHeartbeats 1000000 in
theorem symbolr_any (b c n : Nat) (hn : n < 31) (hc : c < 2147483648) (w : World) (h : Ck w b code) :
    Calls Tryd.prog 75 #[.slice (some ⟨b, 0, none⟩) 257 257, .string lets, .int .u32 (c : Int), .int .i64 (n : Int)] w (SymrPost c n w) := by
  have HK := Lib.hid h; clear h
  go_enter Tryd.func75, Tryd.ntmps75
  go_wp2_with fail
  go_loopw [9] (fun s9 wr => SymsRel c n w s9 wr) (fun s9 _ => 257 - (intOf s9).toNat)
  case atStart => exact ⟨0, rfl, by omega, Lib.hid (fun j hj => by omega), rfl⟩
  case round =>
    obtain ⟨i, rfl, hi, hno, rfl⟩ := hrel
    by_cases hlt : i < 257
    · have ha := lets_all i hlt
      have hsl : i < lets.size := by rw [lets_size]; exact hlt
      have hcell := HK.out.c i hlt
      have hcl := code_le hlt
      have hzl := sz_hi hlt
      have HY : Hid (code i = c → sz i = n → sym c n = some i) := Lib.hid (sym_of hlt)
      have HN : Hid (¬ (code i = c ∧ sz i = n) → NoneYet c n (i + 1)) := Lib.hid (fun h j hj => by
        by_cases e : j = i
        · subst e; exact h
        · exact hno.out j (by omega))
      clear hno
      generalize code i = d at hcell hcl HY HN
      generalize sz i = z at ha hzl HY HN
      by_cases e1 : d = c
      · subst e1
        by_cases e2 : z = n
        · subst e2
          have HS := Lib.hid (HY.out rfl rfl)
          clear HY HN
          go_wp2_with fail
          go_ret
          exact ⟨by rw [HS.out]; rfl, rfl⟩
        · have hb : ((z : Int) == (n : Int)) = false := by rw [beq_eq_false_iff_ne]; omega
          have HZ := Lib.hid (HN.out (fun h => e2 h.2))
          clear HY HN e2
          go_wp2_with fail
          exact ⟨⟨i + 1, by go_num, by omega, HZ, rfl⟩, by simp [intOf]; omega⟩
      · have hb : ((d : Int) == (c : Int)) = false := by rw [beq_eq_false_iff_ne]; omega
        have HZ := Lib.hid (HN.out (fun h => e1 h.1))
        clear HY HN e1
        go_wp2_with fail
        exact ⟨⟨i + 1, by go_num, by omega, HZ, rfl⟩, by simp [intOf]; omega⟩
    · obtain rfl : i = 257 := by omega
      have HZ := Lib.hid (sym_no hn hno.out)
      go_wp2_with fail
      go_ret
      exact ⟨by rw [HZ.out]; rfl, rfl⟩
end Go.Proofs.YtlkieeindnpidaaDoor.Hu

namespace Go.Proofs.YtlkieeindnpidaaDoor.Hu
open Go.RowKit Hf

/-- Its rounds. -/
def DrRel (l : List UInt8) (w : World) (s6 s7 s8 s9 s10 : Value) (wr : World) : Prop := ∃ (i cd k N cc : Nat) (ad : Option Addr) (out : List UInt8) (on : Bool), s10 = .int .i64 (i : Int) ∧ s7 = .int .u32 (cd : Int) ∧ s8 = .int .i64 (k : Int) ∧ s9 = .bool on ∧ s6 = .slice ad N cc ∧
  Hid (on = true ↔ cd = 2 ^ k - 1) ∧ Own wr (w.heap.size + 1) (.slice ad N cc) out ∧ out.length ≤ i ∧ i ≤ 8 * l.length ∧ Ck wr w.heap.size code ∧ Below w.heap.size w wr ∧ w.heap.size < wr.heap.size ∧ Wait cd k ∧ Hid (saysText l = says l (8 * l.length - i) i cd k out)
/-- What it answers. -/
def DecrPost (l : List UInt8) (w : World) (e : Ending) (w' : World) : Prop := Below w.heap.size w w' ∧ match saysText l with
  | some out => e = .returned (.tuple #[.string ⟨out.toArray⟩, .int .i64 0])
  | none => e = .returned (.tuple #[.string ⟨#[]⟩, .int .i64 107])

set_option maxRecDepth 100000 in
set_option maxHeartbeats 4000000 in
theorem decoder_any (a : Option Addr) (n c : Nat) (l : List UInt8) (w : World) (hs : Sl w a n c l) (hn : n ≤ 1000000) :
    Calls Tryd.prog 50 #[.slice a n c] w (DecrPost l w) := by
  have hlen := hs.len
  have HLEN := Lib.hid hlen
  subst hlen
  have HS := Lib.hid hs
  clear hs
  go_enter Tryd.func50, Tryd.ntmps50
  go_wp2_with fail
  refine (codesr_any w).mono ?_
  rintro e w1 ⟨rfl, hck1, hb1, hlt1⟩
  go_wp2_with fail
  refine (lengths_any _).mono ?_
  rintro e w2 ⟨rfl, rfl⟩
  go_wp2_with fail
  go_loopw [6, 7, 8, 9, 10] (fun s6 s7 s8 s9 s10 wr => DrRel l w s6 s7 s8 s9 s10 wr) (fun _ _ _ _ s10 _ => 8 * l.length - (intOf s10).toNat)
  case atStart => exact ⟨0, 0, 0, 0, 0, none, [], true, rfl, rfl, rfl, rfl, rfl, Lib.hid (by simp), Own.nil _ _, by simp, by omega, hck1, hb1, hlt1, wait_zero, Lib.hid rfl⟩
  case round =>
    obtain ⟨i, cd, k, N, cc, ad, out, on, rfl, rfl, rfl, rfl, rfl, hon, hown, hol, hi8, hck, hB, hlt, hwait, hdec⟩ := hrel
    have hk29 := hwait.1
    by_cases hlt8 : i < 8 * l.length
    · obtain ⟨p, t, hpt, hp, ht⟩ : ∃ p t, i = 8 * p + t ∧ p < l.length ∧ t < 8 := ⟨i / 8, i % 8, by omega, by omega, by omega⟩
      obtain ⟨ab, ao, rfl⟩ := HS.out.some (by omega)
      have hcell := (HS.out.kept hB).cell (i := p) hp
      have hq : (i : Int) / 8 = (p : Int) := by omega
      have hr : (i : Int) % 8 = (t : Int) := by omega
      have ht0 : (0 : Int) ≤ 7 - (t : Int) := by omega
      have ht1 : (7 : Int) - (t : Int) < 64 := by omega
      have hbit : (l[p]).toNat / 2 ^ (7 - t) % 2 = bit l i := by
        unfold bit
        rw [show i / 8 = p by omega, show i % 8 = t by omega, List.getD_eq_getElem?_getD, List.getElem?_eq_getElem hp]
        rfl
      have hx8 : (l[p]).toNat < 256 := (l[p]).toNat_lt
      generalize l[p] = x at hcell hbit hx8
      have HPT := Lib.hid hpt
      clear hpt
      have hstep := wait_step hwait l i
      have hlt2 := bit_lt l i
      obtain ⟨r, hr8⟩ : ∃ r, 8 * l.length - i = r + 1 := ⟨8 * l.length - i - 1, by omega⟩
      have hdec2 := hdec.out
      rw [hr8, says] at hdec2
      have hR : Hid (r = 8 * l.length - (i + 1)) := Lib.hid (by omega)
      have hv : bits .and .u32 ((x.toNat : Int) / 2 ^ (7 - t) % 4294967296) 1 = ((bit l i : Nat) : Int) := by
        have hle : x.toNat / 2 ^ (7 - t) ≤ x.toNat := Nat.div_le_self _ _
        rw [← hbit, show ((x.toNat : Int) / 2 ^ (7 - t)) = ((x.toNat / 2 ^ (7 - t) : Nat) : Int) by simp]
        generalize x.toNat / 2 ^ (7 - t) = y at hle
        rw [show ((y : Int) % 4294967296) = (y : Int) by omega, show (1 : Int) = ((1 : Nat) : Int) from rfl, u32_and_nat _ _ (by omega) (by omega), nat_mask1]
      clear hbit hdec hr8
      generalize bit l i = bt at hv hstep hlt2 hdec2
      obtain ⟨hk1, hcl, hwn⟩ := hstep
      have hc30 : 2 * cd + bt < 1073741824 := by
        have := Nat.pow_le_pow_right (n := 2) (by decide) (show k + 1 ≤ 30 by omega)
        have e30 : (2 : Nat) ^ 30 = 1073741824 := by decide
        omega
      have hor : bits .or .u32 ((cd : Int) * 2) (bt : Int) = ((2 * cd + bt : Nat) : Int) := by
        rw [show (cd : Int) * 2 = ((cd * 2 : Nat) : Int) by omega, u32_or_nat _ _ (by omega) (by omega), nat_join1 _ _ (by omega) hlt2, Nat.mul_comm]
      have HO : Hid ((on && ((bt : Int) == 1)) = true ↔ 2 * cd + bt = 2 ^ (k + 1) - 1) := Lib.hid (by
        have h1 := hon.out
        have h2 := hwait.2.2
        have hp2 : 2 ^ (k + 1) = 2 * 2 ^ k := by rw [Nat.pow_succ, Nat.mul_comm]
        rw [hp2]
        rw [Bool.and_eq_true, beq_iff_eq, h1]
        omega)
      have HW := Lib.hid hwn
      generalize 2 * cd + bt = X at hcl hwn hc30 hor HO hdec2 HW
      have hcd : cd < 1073741824 := by
        have h1 := hwait.2.2
        have := Nat.pow_le_pow_right (n := 2) (by decide) (show k ≤ 30 by omega)
        have e30 : (2 : Nat) ^ 30 = 1073741824 := by decide
        omega
      have HV := Lib.hid hv
      have hb2 : (bt : Int) < 2 := by omega
      clear hwn hcl hon hwait HV hx8
      have hlow : k + 1 < 5 → sym X (k + 1) = none := by
        intro h5
        obtain ⟨l1, l2, l3⟩ := low_all (k + 1) h5
        unfold sym
        rw [if_neg (by omega)]
      have HC : Hid (∀ W, Ck W w.heap.size code → Calls Tryd.prog 75 #[.slice (some ⟨w.heap.size, 0, none⟩) 257 257, .string lets, .int .u32 (X : Int), .int .i64 ((k : Int) + 1)] W (SymrPost X (k + 1) W)) := Lib.hid (fun W hW => by
        have := symbolr_any w.heap.size X (k + 1) hk1 (by omega) W hW
        rw [show ((k + 1 : Nat) : Int) = (k : Int) + 1 by simp] at this
        exact this)
      cases hsy : sym X (k + 1) with
      | none =>
        rw [hsy] at hdec2
        have HD := Lib.hid hdec2
        have HC2 : Hid (∀ W, Ck W w.heap.size code → Calls Tryd.prog 75 #[.slice (some ⟨w.heap.size, 0, none⟩) 257 257, .string lets, .int .u32 (X : Int), .int .i64 ((k : Int) + 1)] W fun e w' => e = .returned (.int .i64 (-1)) ∧ W = w') := Lib.hid (fun W hW => by
          have := HC.out W hW
          unfold SymrPost at this
          rw [hsy] at this
          exact this)
        have HW2 := Lib.hid (HW.out hsy)
        clear hdec2 hsy hlow HC HW
        by_cases h5 : k + 1 < 5
        · cases on
          all_goals go_wp2_with fail
          all_goals exact ⟨⟨i + 1, X, k + 1, N, cc, ad, out, _, by go_num, rfl, by go_num, rfl, rfl, HO, hown, by omega, by omega, hck, hB, hlt, HW2.out, Lib.hid (by rw [HD.out, hR.out])⟩, by simp [intOf]; omega⟩
        · cases on
          all_goals go_wp2_with fail
          all_goals ((with_reducible_and_instances refine Calls.mono (HC2.out _ hck) ?_))
          all_goals rintro e w' ⟨rfl, rfl⟩
          all_goals go_wp2_with fail
          all_goals exact ⟨⟨i + 1, X, k + 1, N, cc, ad, out, _, by go_num, rfl, by go_num, rfl, rfl, HO, hown, by omega, by omega, hck, hB, hlt, HW2.out, Lib.hid (by rw [HD.out, hR.out])⟩, by simp [intOf]; omega⟩
      | some s =>
        rw [hsy] at hdec2
        simp only at hdec2
        have h5 : ¬ k + 1 < 5 := fun h => by rw [hlow h] at hsy; cases hsy
        have hs257 := (sym_bound hsy hk1).1
        have HC2 : Hid (∀ W, Ck W w.heap.size code → Calls Tryd.prog 75 #[.slice (some ⟨w.heap.size, 0, none⟩) 257 257, .string lets, .int .u32 (X : Int), .int .i64 ((k : Int) + 1)] W fun e w' => e = .returned (.int .i64 (s : Int)) ∧ W = w') := Lib.hid (fun W hW => by
          have := HC.out W hW
          unfold SymrPost at this
          rw [hsy] at this
          exact this)
        clear hsy hlow HC HW
        by_cases h256 : s = 256
        · rw [if_pos h256] at hdec2
          have HD := Lib.hid hdec2
          have hb : ((s : Int) == 256) = true := by rw [h256]; rfl
          clear hdec2 h256
          cases on
          all_goals go_wp2_with fail
          all_goals ((with_reducible_and_instances refine Calls.mono (HC2.out _ hck) ?_))
          all_goals rintro e w' ⟨rfl, rfl⟩
          all_goals go_wp2_with fail
          all_goals go_ret2
          all_goals exact ⟨hB, by rw [HD.out]; rfl⟩
        · rw [if_neg h256] at hdec2
          have HD := Lib.hid hdec2
          have hb : ((s : Int) == 256) = false := by rw [beq_eq_false_iff_ne]; omega
          have hsb : (s : Int) % 256 = (((UInt8.ofNat s).toNat : Nat) : Int) := by rw [ofNat_toNat']; omega
          have HSB := Lib.hid hsb
          clear hdec2 h256 hsb
          cases on
          all_goals go_wp2_with fail
          all_goals ((with_reducible_and_instances refine Calls.mono (HC2.out _ hck) ?_))
          all_goals rintro e w' ⟨rfl, rfl⟩
          all_goals go_wp2_with (at_builtin; (refine wp_append_bytes rfl _ _ rfl _ out [UInt8.ofNat s] rfl (w.heap.size + 1) (hown.alloc _) (some ⟨wr.heap.size, 0, none⟩) 1 1 rfl (sl_new1 _ _ _ (by first | exact HSB.out | (rw [← HSB.out]; omega))) (by omega) (by simp; omega) ?_); intro w3 a3 N3 c3 hN3 hown3 hb3)
          all_goals (have hb4 : Below (w.heap.size + 1) wr w3 := ((Below.refl _ wr).alloc (by omega) _).trans hb3)
          all_goals (have hz4 := hb4.size)
          all_goals exact ⟨⟨i + 1, 0, 0, N3, c3, a3, _, true, by go_num, rfl, rfl, rfl, rfl, Lib.hid (by simp), hown3, by rw [List.length_append]; exact Nat.succ_le_succ hol, by omega, hck.kept hb4, hB.trans (hb4.mono (by omega)), by omega, wait_zero, Lib.hid (by rw [HD.out, hR.out])⟩, by simp [intOf]; omega⟩
    · obtain rfl : i = 8 * l.length := by omega
      have hdec2 := hdec.out
      rw [Nat.sub_self, says] at hdec2
      have hconv := (own_sl2 hown).conv
      by_cases h8 : 8 ≤ k
      · rw [if_pos (Or.inl h8)] at hdec2
        have HD := Lib.hid hdec2
        clear hdec2 hdec hon hwait
        go_wp2_with fail
        all_goals go_ret2
        all_goals exact ⟨hB, by rw [HD.out]; rfl⟩
      · cases on with
        | true =>
          rw [if_neg (by rw [not_or]; exact ⟨h8, fun h => h (hon.out.1 rfl)⟩)] at hdec2
          have HD := Lib.hid hdec2
          clear hdec2 hdec hon hwait
          go_wp2_with fail
          all_goals go_ret2
          all_goals exact ⟨hB, by rw [HD.out]; rfl⟩
        | false =>
          rw [if_pos (Or.inr (fun h => by have := hon.out.2 h; cases this))] at hdec2
          have HD := Lib.hid hdec2
          clear hdec2 hdec hon hwait
          go_wp2_with fail
          all_goals go_ret2
          all_goals exact ⟨hB, by rw [HD.out]; rfl⟩
end Go.Proofs.YtlkieeindnpidaaDoor.Hu
