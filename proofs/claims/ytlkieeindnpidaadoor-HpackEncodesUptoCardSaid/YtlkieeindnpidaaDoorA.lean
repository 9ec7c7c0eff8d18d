/-
  CONTRACTS: full, hasPrefix, addInt, addText, grown.
-/
import Derived.Test.YtlkieeindnpidaaDoorK
import Derived.Test.YtlkieeindnpidaaDoorM
import Derived.Laws.BitsLemmas
import Derived.Lib.AppendStr
import Derived.Maps.AppendAt
namespace Go.Proofs.YtlkieeindnpidaaDoor
open Go.RowKit Tt Hu Hu.Hf

set_option maxRecDepth 100000 in
theorem full_any (k : Nat) (h1 : 1 ≤ k) (h8 : k ≤ 8) (w : World) : Calls Tryd.prog 41 #[.int .i64 (k : Int)] w fun e w' => e = .returned (.int .i64 ((2 ^ k - 1 : Nat) : Int)) ∧ w = w' := by
  have hk : k = 1 ∨ k = 2 ∨ k = 3 ∨ k = 4 ∨ k = 5 ∨ k = 6 ∨ k = 7 ∨ k = 8 := by omega
  clear h1 h8
  rcases hk with rfl | rfl | rfl | rfl | rfl | rfl | rfl | rfl
  all_goals
    go_enter Tryd.func41, Tryd.ntmps41
    go_wp2
    go_ret
    exact ⟨rfl, rfl⟩
theorem prefix_yes (k : Nat) (h1 : 1 ≤ k) (h8 : k ≤ 8) (w : World) : Calls Tryd.prog 40 #[.int .i64 (k : Int)] w fun e w' => e = .returned (.bool true) ∧ w = w' := by
  have h : decide ((k : Int) ≤ 8) = true := by simp; omega
  go_enter Tryd.func40, Tryd.ntmps40
  go_wp2
  go_ret
  exact ⟨by simp [h], rfl⟩
theorem prefix_no (k : Int) (h : k < 1 ∨ 8 < k) (w : World) : Calls Tryd.prog 40 #[.int .i64 k] w fun e w' => e = .returned (.bool false) ∧ w = w' := by
  rcases h with h | h
  · have h' : ¬ 1 ≤ k := by omega
    go_enter Tryd.func40, Tryd.ntmps40
    go_wp2
    go_ret
    exact ⟨rfl, rfl⟩
  · have h2 : 1 ≤ k := by omega
    have h1 : decide (k ≤ 8) = false := by simp; omega
    go_enter Tryd.func40, Tryd.ntmps40
    go_wp2
    go_ret
    exact ⟨by simp [h1], rfl⟩

/-- Bytes of the call's own, of l; below block B nothing has turned. -/
def OwnOut (B : Nat) (l : List UInt8) (w : World) (e : Ending) (w' : World) : Prop := ∃ a N c, e = .returned (.slice a N c) ∧ Hid (N = l.length) ∧ Hu.Own w' B (.slice a N c) l ∧ Below B w w'
/-- What was ahead, but for the row v, is as it was, and the new row v' lies in none of it. -/
def Apart (v : Value) (w : World) (v' : Value) (w' : World) : Prop := ∀ x, x < w.heap.size → v.ownBlock ≠ some x → w'.heap[x]? = w.heap[x]? ∧ v'.ownBlock ≠ some x
theorem Apart.refl (v : Value) (w : World) : Apart v w v w := fun x _ hv => ⟨rfl, hv⟩
theorem Apart.trans {v v1 v2 : Value} {w w1 w2 : World} (h : Apart v w v1 w1) (hz : w.heap.size ≤ w1.heap.size) (k : Apart v1 w1 v2 w2) : Apart v w v2 w2 := fun x hx hv => by
  obtain ⟨e1, h1⟩ := h x hx hv
  obtain ⟨e2, h2⟩ := k x (by omega) h1
  exact ⟨e2.trans e1, h2⟩
theorem Apart.below {v : Value} {w w' : World} (h : Below w.heap.size w w') : Apart v w v w' := fun x hx hv => ⟨h.block x hx, hv⟩
theorem Apart.grown {v v' : Value} {w w' : World} (h : w.grownBy w' v.ownBlock) (hv : v'.ownBlock = v.ownBlock ∨ v'.ownBlock = some w.heap.size) : Apart v w v' w' := fun x hx hn => by
  refine ⟨h.block x hx (Ne.symm hn), ?_⟩
  rcases hv with e | e
  · rw [e]; exact hn
  · rw [e]; intro h; cases h; omega
/-- As OwnOut, and apart from what was ahead but the row v. -/
def OwnOutX (B : Nat) (v : Value) (l : List UInt8) (w : World) (e : Ending) (w' : World) : Prop := ∃ a N c, e = .returned (.slice a N c) ∧ Hid (N = l.length) ∧ Hu.Own w' B (.slice a N c) l ∧ Below B w w' ∧ Apart v w (.slice a N c) w'
/-- 'append(s, x...)', s of the call's own, x whatever slice. -/
theorem wp_append_bytes_x {w : World} {ops : Array Oper} {rest : List Oper} {o : Oper} {a : Act} {Q : Exit → Act → World → Prop}
    (hgd : o.guard = none) (s x : Operand) (ho : o.op = .call { callee := .builtin .append, args := #[s, x], argTypes := #[22, 22] })
    (v : Value) (l m : List UInt8) (hs : a.eval s = v) (B : Nat) (hown : Hu.Own w B v l) (ad : Option Addr) (n c : Nat) (hx : a.eval x = .slice ad n c) (hsl : Sl w ad n c m)
    (hbytes : l.length + n ≤ 140737488355328) (hbase : B ≤ w.heap.size)
    (hK : ∀ w' ad' N' c', Hid (N' = (l ++ m).length) → Hu.Own w' B (.slice ad' N' c') (l ++ m) → Below B w w' → Apart v w (.slice ad' N' c') w' → wpList Tryd.prog ops Q rest (a.put o.dst (.slice ad' N' c')) w') :
    wpList Tryd.prog ops Q (o :: rest) a w := by
  obtain ⟨i0, hi, hz0, hz1, hz2⟩ := info_parts Hu.info8
  have hlen := hsl.len
  cases ad with
  | none =>
    obtain rfl := hsl.nil rfl
    have hn : n = 0 := by have := hsl.le; omega
    subst hn
    obtain rfl : m = [] := List.length_eq_zero_iff.1 hlen
    obtain ⟨ad', c', rfl, _⟩ := hown.sl
    refine wpList_append_own_none hgd s x _ ho B _ i0 1 Tryd.underlying22 hi _ l.length _ hs hown hx ?_
    have h := hK w ad' l.length c' (by simp [Hid]) (by simpa using hown) (Below.refl _ _) (Apart.refl _ _)
    exact h
  | some p =>
    refine wpList_append_own_at w hgd s x _ ho B _ i0 (.int .u8 0) 1 1 Tryd.underlying22 hi hz0 hz1 hz2 rfl (by decide) v l.length (cellsOf l) hs hown p n c (cellsOf m) hx
      (by rw [cellsOf_length]; omega) ?_ (cellsOf_one m) (by unfold maxLen; omega) (by omega) hbase ?_
    · intro j u hj
      have hjl : j < m.length := by
        have := (List.getElem?_eq_some_iff.1 hj).1
        simpa [cellsOf] using this
      obtain ⟨b, o', e, hc⟩ := hsl.row j hjl
      cases e
      rw [Addr.add_lit, hc]
      rw [cellsOf_get hjl] at hj
      exact hj
    · intro v' w' h1 h2 _ h4
      have h1' : Hu.Own w' B v' (l ++ m) := by
        unfold Hu.Own
        rw [List.length_append, cellsOf_append, hlen]; exact h1
      obtain ⟨ad', c', rfl, _⟩ := h1'.sl
      exact hK w' ad' _ c' rfl h1' (hown.below h2 hbase) (Apart.grown h2 h4)
theorem sl_own {w : World} {B : Nat} {a : Option Addr} {N c : Nat} {l : List UInt8} (h : Hu.Own w B (.slice a N c) l) : Sl w a N c l := own_sl2 h
/-- 'first | n', where n lies below first. -/
theorem or_pre (q k n : Nat) (h : n < 2 ^ k) (hq : q * 2 ^ k + n < 256) : bits .or .i64 ((q * 2 ^ k : Nat) : Int) (n : Int) = ((q * 2 ^ k + n : Nat) : Int) := by
  have hm : (q * 2 ^ k) % 2 ^ k = 0 := Nat.mul_mod_left _ _
  rw [bits_join .i64 62 (by decide) (fun n h0 h1 => by rw [IntKind.wrap_i64]; omega) k ((q * 2 ^ k : Nat) : Int) (n : Int) (by omega) (by exact_mod_cast hm) (by omega) (by omega) (by exact_mod_cast h) (by omega)]
  simp

theorem ofNat_toNat {n : Nat} (h : n < 256) : (UInt8.ofNat n).toNat = n := by simp; omega
theorem nat_mask7 (a : Nat) : a &&& 127 = a % 128 := Nat.and_two_pow_sub_one_eq_mod a 7
theorem or128 {u : Nat} : bits .or .u8 ((u : Int) % 256) 128 = ((UInt8.ofNat (u % 128 + 128)).toNat : Int) := by
  rw [ofNat_toNat (by omega), show (u : Int) % 256 = ((u % 256 : Nat) : Int) by omega, show (128 : Int) = ((128 : Nat) : Int) from rfl, u8_or_nat _ _ (by omega) (by omega)]
  congr 1
  have key : ∀ x : BitVec 8, x ||| 128#8 = (x &&& 127#8) + 128#8 := by decide
  have h := congrArg BitVec.toNat (key (BitVec.ofNat 8 (u % 256)))
  rw [BitVec.toNat_or, BitVec.toNat_add, BitVec.toNat_and, BitVec.toNat_ofNat, show (128#8).toNat = 128 from rfl, show (127#8).toNat = 127 from rfl, show u % 256 % 2 ^ 8 = u % 256 by omega, nat_mask7] at h
  rw [h]; omega

set_option maxRecDepth 100000 in
set_option maxHeartbeats 2000000 in
theorem addInt_any (B : Nat) (a : Option Addr) (N c : Nat) (l : List UInt8) (q k n : Nat) (h1 : 1 ≤ k) (h8 : k ≤ 8) (hq : q * 2 ^ k < 256) (hn : n ≤ 2147483647) (w : World) (ho : Hu.Own w B (.slice a N c) l) (hB : B ≤ w.heap.size) (hl : l.length ≤ 1000000000) :
    Calls Tryd.prog 43 #[.slice a N c, .int .i64 ((q * 2 ^ k : Nat) : Int), .int .i64 (k : Int), .int .i64 (n : Int)] w (OwnOutX B (.slice a N c) (l ++ pint (q * 2 ^ k) k n) w) := by
  have HF := Lib.hid (fun W => full_any k h1 h8 W)
  have hp : q * 2 ^ k + 2 ^ k ≤ 256 := by
    have h0 : 2 ^ 8 % 2 ^ k = 0 := Nat.mod_eq_zero_of_dvd (Nat.pow_dvd_pow 2 h8)
    have h1 : q * 2 ^ k + 2 ^ k = (q + 1) * 2 ^ k := by rw [Nat.add_mul, Nat.one_mul]
    have h2 := Nat.div_add_mod (2 ^ 8) (2 ^ k)
    rw [h0, Nat.add_zero] at h2
    rw [h1, show 256 = 2 ^ 8 from rfl, ← h2, Nat.mul_comm (2 ^ k)]
    refine Nat.mul_le_mul_right _ ?_
    have h3 : q < 2 ^ 8 / 2 ^ k := by
      rw [Nat.lt_div_iff_mul_lt' (Nat.pow_dvd_pow 2 h8), Nat.mul_comm]
      exact hq
    omega
  have hpos := Nat.two_pow_pos k
  have HO := Lib.hid ho
  have hNl := ho.len
  have hp2 : 2 ^ k - 1 < 2 ^ k := by omega
  have HOR := Lib.hid (fun x (hx : x < 2 ^ k) => or_pre q k x hx (by omega))
  by_cases hlt : n < 2 ^ k - 1
  · have HP := Lib.hid (pint_lt (first := q * 2 ^ k) hlt)
    have hor := HOR.out n (by omega)
    have hg : q * 2 ^ k + n < 256 := by omega
    have hdc : decide (n < 2 ^ k - 1) = true := by simpa using hlt
    generalize q * 2 ^ k + n = g at hor hg HP
    generalize q * 2 ^ k = f at hor hp HP hq
    generalize 2 ^ k = P at hp hpos hlt hdc HF hp2
    have HB : Hid ((g : Int) = ((UInt8.ofNat g).toNat : Int)) := Lib.hid (by rw [ofNat_toNat hg])
    clear HOR ho hNl
    go_enter Tryd.func43, Tryd.ntmps43
    go_wp2_with fail
    refine (HF.out _).mono ?_
    rintro e w' ⟨rfl, rfl⟩
    go_wp2_with (at_builtin; (refine wp_append_bytes_x rfl _ _ rfl _ l [UInt8.ofNat g] rfl B (HO.out.alloc _) (some ⟨w.heap.size, 0, none⟩) 1 1 rfl (sl_new1 _ _ _ HB.out) (by simp; omega) (by simp; omega) ?_); intro w2 ad2 N2 c2 hN2 hown2 hb2 hap2)
    go_ret
    refine ⟨_, _, _, rfl, ?_, ?_, ((Below.refl B w).alloc hB _).trans hb2, (Apart.below ((Below.refl _ w).alloc (Nat.le_refl _) _)).trans (by simp) hap2⟩
    · rw [HP.out]; exact hN2
    · rw [HP.out]; exact hown2
  · have HP := Lib.hid (pint_ge (first := q * 2 ^ k) hlt)
    have hor := HOR.out (2 ^ k - 1) (by omega)
    have hg : q * 2 ^ k + (2 ^ k - 1) < 256 := by omega
    have hdc : decide (n < 2 ^ k - 1) = false := by simpa using hlt
    generalize q * 2 ^ k + (2 ^ k - 1) = g at hor hg HP
    generalize q * 2 ^ k = f at hor hp HP hq
    generalize 2 ^ k - 1 = P at hlt hdc HF hp2 HP hor
    have HB : Hid ((g : Int) = ((UInt8.ofNat g).toNat : Int)) := Lib.hid (by rw [ofNat_toNat hg])
    clear HOR ho hNl hpos hp hp2
    go_enter Tryd.func43, Tryd.ntmps43
    go_wp2_with fail
    refine (HF.out _).mono ?_
    rintro e w' ⟨rfl, rfl⟩
    go_wp2_with fail
    refine (HF.out _).mono ?_
    rintro e w' ⟨rfl, rfl⟩
    go_wp2_with (at_builtin; (refine wp_append_bytes_x rfl _ _ rfl _ l [UInt8.ofNat g] rfl B (HO.out.alloc _) (some ⟨w.heap.size, 0, none⟩) 1 1 rfl (sl_new1 _ _ _ HB.out) (by simp; omega) (by simp; omega) ?_); intro w2 ad2 N2 c2 hN2 hown2 hb2 hap2)
    have hAP2 := Lib.hid ((Apart.below (v := .slice a N c) ((Below.refl _ w).alloc (Nat.le_refl _) (.cells #[.int .u8 (g : Int)] 5))).trans (by simp) hap2)
    have hB2 := ((Below.refl B w).alloc hB (.cells #[.int .u8 (g : Int)] 5)).trans hb2
    have hz2 := hB2.size
    clear hb2 hap2
    go_wp2_with fail
    refine (HF.out _).mono ?_
    rintro e w' ⟨rfl, rfl⟩
    obtain ⟨m, hm⟩ : ∃ m, n = P + m := ⟨n - P, by omega⟩
    subst hm
    have HM : Hid (P + m - P = m) := Lib.hid (by omega)
    rw [HM.out] at HP
    go_wp2_with fail
    go_loopw [0, 3] (fun v i wr => ∃ (x : Nat) (pre : List UInt8) (ad : Option Addr) (K c' : Nat), i = .int .i64 (x : Int) ∧ x ≤ 2147483647 ∧ v = .slice ad K c' ∧ Hid (UInt8.ofNat g :: tail7 m = pre ++ tail7 x) ∧ Hu.Own wr B (.slice ad K c') (l ++ pre) ∧ Below B w wr ∧ Apart (.slice a N c) w v wr)
      (fun _ i _ => (intOf i).toNat)
    case atStart => exact ⟨m, [UInt8.ofNat g], _, _, _, by go_num, by omega, rfl, Lib.hid rfl, hown2, hB2, hAP2.out⟩
    case round =>
      obtain ⟨x, pre, ad, M, c', rfl, hx, rfl, hv, ho, hb, hap⟩ := hrel
      have HAP := Lib.hid hap
      clear hap
      have hpl : pre.length ≤ 6 := by
        have h7 := congrArg List.length hv.out
        have h8 := tail7_len 4 m (by omega)
        simp only [List.length_cons, List.length_append] at h7
        omega
      have hz := hb.size
      clear hown2 hB2 hAP2
      by_cases h : x < 128
      · have hb1 : (x : Int) = ((UInt8.ofNat x).toNat : Int) := by rw [ofNat_toNat (by omega)]
        have HB := Lib.hid hb1; clear hb1
        go_wp2_with (at_builtin; (refine wp_append_bytes_x rfl _ _ rfl _ (l ++ pre) [UInt8.ofNat x] rfl B (ho.alloc _) (some ⟨wr.heap.size, 0, none⟩) 1 1 rfl (sl_new1 _ _ _ HB.out) (by simp; omega) (by simp; omega) ?_); intro w3 ad3 N3 c3 hN3 hown3 hb3 hap3)
        go_ret
        have e : l ++ pre ++ [UInt8.ofNat x] = l ++ pint f k (P + m) := by rw [HP.out, hv.out, tail7_lt h, List.append_assoc]
        rw [e] at hN3 hown3
        exact ⟨_, _, _, rfl, hN3, hown3, (hb.alloc (by omega) _).trans hb3, (HAP.out.trans hz ((Apart.below ((Below.refl _ wr).alloc (Nat.le_refl _) _)).trans (by simp) hap3))⟩
      · have HB := Lib.hid (or128 (u := x))
        go_wp2_with (at_builtin; (refine wp_append_bytes_x rfl _ _ rfl _ (l ++ pre) [UInt8.ofNat (x % 128 + 128)] rfl B (ho.alloc _) (some ⟨wr.heap.size, 0, none⟩) 1 1 rfl (sl_new1 _ _ _ HB.out) (by simp; omega) (by simp; omega) ?_); intro w3 ad3 N3 c3 hN3 hown3 hb3 hap3)
        go_roundw
        case rel => exact ⟨x / 128, pre ++ [UInt8.ofNat (x % 128 + 128)], _, _, _, by go_num, by omega, rfl, Lib.hid (by rw [hv.out, tail7_ge h]; simp), by rw [← List.append_assoc]; exact hown3, (hb.alloc (by omega) _).trans hb3, (HAP.out.trans hz ((Apart.below ((Below.refl _ wr).alloc (Nat.le_refl _) _)).trans (by simp) hap3))⟩
        case measure => simp [intOf]; omega
/-- 'grown(b, n)': b in new memory. -/
theorem grown_any (a : Option Addr) (n c : Nat) (l : List UInt8) (m : Nat) (w : World) (hs : Sl w a n c l) (hm : n + m ≤ 1000000000) : Calls Tryd.prog 42 #[.slice a n c, .int .i64 (m : Int)] w (OwnOut w.heap.size l w) := by
  have hn := hs.len
  subst hn
  have HS := Lib.hid hs
  have hcn : l.length ≤ 1000000000 := by omega
  clear hs
  go_enter Tryd.func42, Tryd.ntmps42
  go_wp2_with (first | (at_make; refine wp_make_bytes rfl _ _ rfl _ rfl rfl (by omega) (by omega) w.heap.size (Nat.le_refl _) ?_; intro w1 ad1 hown1 hb1; have hs1 := HS.out.kept hb1; have hz1 := hb1.size) | (at_builtin; refine wp_append_bytes rfl _ _ rfl _ [] l rfl w.heap.size hown1 a l.length c rfl hs1 (by simp; omega) hz1 ?_; intro w2 ad2 N2 c2 hN2 hown2 hb2))
  go_ret
  exact ⟨_, _, _, rfl, hN2, hown2, hb1.trans hb2⟩

theorem cells_str (s : ByteArray) : Lib.strCells s = cellsOf (str s) := rfl
theorem ok_inj {α : Type} {a b : α} {w w' : World} (h : (Result.ok a w : Result α) = Result.ok b w') : a = b := by cases h; rfl
set_option maxRecDepth 100000 in
theorem str_block (w : World) (B : Nat) (i0 : TypeInfo) (hi : Tryd.prog.info? 5 = some i0) (hz0 : i0.zero = some (.int .u8 0)) (hz1 : i0.size = 1) (hz2 : i0.bytes = 1) (ty : TypeId)
    (v : Value) (l : List UInt8) (hown : Hu.Own w B v l) (s : ByteArray) (hbytes : l.length + s.size ≤ 140737488355328) :
    ∃ v' w', (Builtin.append_ #[22, 9] ty #[v, .string s]).run Tryd.prog w = .ok v' w' ∧ (v'.ownBlock = v.ownBlock ∨ v'.ownBlock = some w.heap.size) := by
  obtain ⟨hxl, h2⟩ := id hown
  rcases h2 with ⟨rfl, hn⟩ | ⟨g, cap, cur, rfl, hbg, hg, hnc, hcm, hcs, htake⟩
  · rw [hn] at hbytes
    by_cases hm : s.size = 0
    · refine ⟨.slice none 0 0, w, ?_, .inl rfl⟩
      have hns : Lib.strCells s = [] := List.eq_nil_of_length_eq_zero (by rw [Lib.strCells_length]; exact hm)
      have hf := Lib.run_firstCells_string (P := Tryd.prog) w 1 s
      rw [hm] at hf
      simp [Builtin.append_, run_underlying Tryd.underlying22, run_underlying Tryd.underlying9, sizeOf, typeInfo, hi, hz1, Builtin.lenOf, hm, hf]
    · have hr := run_append_nil_string (P := Tryd.prog) w 22 9 ty 5 i0 (.int .u8 0) Tryd.underlying22 Tryd.underlying9 hi hz0 s (by omega) (by omega) (by rw [hz2]; omega)
      exact ⟨_, _, hr, .inr rfl⟩
  · by_cases hroom : l.length + s.size ≤ cap
    · have hcs' : cur.size = cap := by simpa using hcs
      have hr := Lib.run_append_room_string (P := Tryd.prog) w 22 9 ty 5 i0 Tryd.underlying22 Tryd.underlying9 hi hz1 g l.length cap cur hg s hroom (by omega)
      exact ⟨_, _, hr, .inl rfl⟩
    · have holds : ∀ j u, (cellsOf l)[j]? = some u → w.cell? ((⟨g, 0, none⟩ : Addr).add j) = some u := World.ownsRow.cells (g := g) hown rfl
      have hr := Lib.run_append_grow_string (P := Tryd.prog) w 22 9 ty 5 i0 (.int .u8 0) Tryd.underlying22 Tryd.underlying9 hi hz0 ⟨g, 0, none⟩ l.length cap (cellsOf l) (by rw [hz1, cellsOf_length]; omega) holds s (by omega) (by omega) (by rw [hz2]; exact growslice_fits (by omega) (by omega))
      exact ⟨_, _, hr, .inr rfl⟩
/-- 'append(b, s...)', s a string. -/
theorem wp_append_string {w : World} {ops : Array Oper} {rest : List Oper} {o : Oper} {a : Act} {Q : Exit → Act → World → Prop}
    (hgd : o.guard = none) (b x : Operand) (ho : o.op = .call { callee := .builtin .append, args := #[b, x], argTypes := #[22, 9] })
    (v : Value) (l : List UInt8) (hs : a.eval b = v) (B : Nat) (hown : Hu.Own w B v l) (s : ByteArray) (hx : a.eval x = .string s)
    (hbytes : l.length + s.size ≤ 140737488355328) (hbase : B ≤ w.heap.size)
    (hK : ∀ w' ad' N' c', Hid (N' = (l ++ str s).length) → Hu.Own w' B (.slice ad' N' c') (l ++ str s) → Below B w w' → Apart v w (.slice ad' N' c') w' → wpList Tryd.prog ops Q rest (a.put o.dst (.slice ad' N' c')) w') :
    wpList Tryd.prog ops Q (o :: rest) a w := by
  obtain ⟨i0, hi, hz0, hz1, hz2⟩ := info_parts Hu.info8
  obtain ⟨v1, w1, hr1, hb1⟩ := str_block w B i0 hi hz0 hz1 hz2 o.type v l hown s hbytes
  refine wpList_plain hgd fun K hK' => ?_
  obtain ⟨v', w', hr, h2, h3, h4⟩ := Lib.run_append_own_string (P := Tryd.prog) w B 22 9 o.type 5 i0 Tryd.underlying22 Tryd.underlying9 hi hz0 hz1 hz2 v l.length (cellsOf l) hown s (by unfold maxLen; omega) hbytes hbase
  have hvv : v' = v1 := ok_inj (hr.symm.trans hr1)
  subst hvv
  have h1' : Hu.Own w' B v' (l ++ str s) := by
    unfold Hu.Own
    rw [List.length_append, cellsOf_append, str_len]; exact h2
  obtain ⟨ad', c', rfl, _⟩ := h1'.sl
  unfold Oper.wp execOp
  simp only [ho, resolve, invoke, builtin, Sem.run_bind, Sem.run_pure, Result.andThen_ok, List.map_toArray, List.map_cons, List.map_nil, hs, hx, hr]
  exact hK' _ _ (hK w' ad' _ c' rfl h1' (hown.below h3 hbase) (Apart.grown h3 hb1))

theorem addText_any (B : Nat) (a : Option Addr) (N c : Nat) (l : List UInt8) (s : ByteArray) (w : World) (ho : Hu.Own w B (.slice a N c) l) (hB : B ≤ w.heap.size) (hs : s.size ≤ 1048576) (hl : l.length ≤ 900000000) :
    Calls Tryd.prog 46 #[.slice a N c, .string s] w (OwnOutX B (.slice a N c) (l ++ ptext s) w) := by
  have HSZ := Lib.hid (fun W => sizeOf_any s hs W)
  have HO := Lib.hid ho
  have HEN := Lib.hid (fun W => encode_any s hs W)
  have hzz : (totN (str s) + 7) / 8 = hz s := rfl
  rw [hzz] at HSZ
  have HZE : Hid ((enc (str s)).length = hz s) := Lib.hid (enc_length _)
  have HPT : Hid (ptext s = if hz s < s.size then pint 128 7 (hz s) ++ enc (str s) else pint 0 7 s.size ++ str s) := Lib.hid rfl
  clear hzz ho
  generalize hz s = Z at HSZ HPT HZE
  by_cases hlt : Z < s.size
  · have hdc : decide (Z < s.size) = true := by simpa using hlt
    have HPT : Hid (ptext s = pint 128 7 Z ++ enc (str s)) := Lib.hid (by rw [HPT.out, if_pos hlt])
    have HI := Lib.hid (addInt_any B a N c l 1 7 Z (by omega) (by omega) (by omega) (by omega) w HO.out hB (by omega))
    have h6 := pint_len (first := 128) (bits := 7) (n := Z) (by omega)
    generalize hP : pint 128 7 Z = P at h6 HPT
    have HP := Lib.hid hP
    clear hP
    go_enter Tryd.func46, Tryd.ntmps46
    go_wp2_with fail
    refine (HSZ.out _).mono ?_
    rintro e w' ⟨rfl, rfl⟩
    go_wp2_with fail
    refine HI.out.mono ?_
    rintro e w1 ⟨a1, N1, c1, rfl, hN1, ho1, hb1, hap1⟩
    have ho1' : Hu.Own w1 B (.slice a1 N1 c1) (l ++ P) := HP.out ▸ ho1
    have hz1 := hb1.size
    clear HI ho1 HSZ
    go_wp2_with fail
    refine (HEN.out _).mono ?_
    rintro e w2 ⟨a2, N2, c2, rfl, hN2, ho2, hb2⟩
    have HO2 := Lib.hid (ho1'.kept hb2)
    have HS2 := Lib.hid (sl_own ho2)
    have hz2 := hb2.size
    have hlp : (l ++ P).length + N2 ≤ 140737488355328 := by have := HZE.out; have := hN2.out; rw [List.length_append]; omega
    clear HEN ho1' ho2
    go_wp2_with (at_builtin; (refine wp_append_bytes_x rfl _ _ rfl _ (l ++ P) (enc (str s)) rfl B HO2.out a2 N2 c2 rfl HS2.out hlp (by omega) ?_); intro w3 ad3 N3 c3 hN3 hown3 hb3 hap3)
    go_ret
    rw [List.append_assoc, ← HPT.out] at hN3 hown3
    exact ⟨_, _, _, rfl, hN3, hown3, (hb1.trans (hb2.mono (by omega))).trans hb3, hap1.trans hz1 ((Apart.below hb2).trans hz2 hap3)⟩
  · have hdc : decide (Z < s.size) = false := by simpa using hlt
    have HPT : Hid (ptext s = pint 0 7 s.size ++ str s) := Lib.hid (by rw [HPT.out, if_neg hlt])
    have HI := Lib.hid (addInt_any B a N c l 0 7 s.size (by omega) (by omega) (by omega) (by omega) w HO.out hB (by omega))
    have h6 := pint_len (first := 0) (bits := 7) (n := s.size) (by omega)
    generalize hP : pint 0 7 s.size = P at h6 HPT
    have HP := Lib.hid hP
    clear hP
    go_enter Tryd.func46, Tryd.ntmps46
    go_wp2_with fail
    refine (HSZ.out _).mono ?_
    rintro e w' ⟨rfl, rfl⟩
    go_wp2_with fail
    refine HI.out.mono ?_
    rintro e w1 ⟨a1, N1, c1, rfl, hN1, ho1, hb1, hap1⟩
    have ho1' : Hu.Own w1 B (.slice a1 N1 c1) (l ++ P) := HP.out ▸ ho1
    have hz1 := hb1.size
    have hlp : (l ++ P).length + s.size ≤ 140737488355328 := by rw [List.length_append]; omega
    have HO2 := Lib.hid ho1'
    clear HI ho1 HSZ ho1'
    go_wp2_with (at_builtin; (refine wp_append_string rfl _ _ rfl _ (l ++ P) rfl B HO2.out s rfl hlp (by omega) ?_); intro w3 ad3 N3 c3 hN3 hown3 hb3 hap3)
    go_ret
    rw [List.append_assoc, ← HPT.out] at hN3 hown3
    exact ⟨_, _, _, rfl, hN3, hown3, hb1.trans hb3, hap1.trans hz1 hap3⟩
end Go.Proofs.YtlkieeindnpidaaDoor
