/-
  CONTRACTS: fixedSize, addFixed, Fixed, Unfixed, and the document's; SameBytes.
-/
import Derived.Test.YtclnmajjkchfmaaDoorC
import Derived.Laws.BytesArg
namespace Go.Proofs.YtclnmajjkchfmaaDoor
open Go.RowKit Wr

theorem fixedSize_any (k : Int) (w : World) : Calls Tryd.prog 46 #[.int .i64 k] w fun e w' => e = .returned (.bool (k == 4 || k == 8)) ∧ w = w' := by
  by_cases h4 : k = 4
  · subst h4
    go_enter Tryd.func46, Tryd.ntmps46
    go_wp2
    go_ret
    exact ⟨rfl, rfl⟩
  · have h4b : (k == 4) = false := by rw [beq_eq_false_iff_ne]; exact h4
    by_cases h8 : k = 8
    · subst h8
      go_enter Tryd.func46, Tryd.ntmps46
      go_wp2
      go_ret
      exact ⟨rfl, rfl⟩
    · have h8b : (k == 8) = false := by rw [beq_eq_false_iff_ne]; exact h8
      go_enter Tryd.func46, Tryd.ntmps46
      go_wp2
      go_ret
      exact ⟨by simp [h4b, h8b], rfl⟩

set_option maxRecDepth 100000 in
set_option maxHeartbeats 1000000 in
theorem addFixed_any (B : Nat) (a : Option Addr) (n c : Nat) (l : List UInt8) (w : World) (hown : Own w B (.slice a n c) l) (u : Nat) (hu : u ≤ 18446744073709551615) (k : Nat) (hk8 : k ≤ 8) (hB : B ≤ w.heap.size) (hk : l.length + 10 ≤ 140737488355328) :
    Calls Tryd.prog 47 #[.slice a n c, .int .u64 u, .int .i64 k] w (Added B (l ++ fixedB k u) w) := by
  go_enter Tryd.func47, Tryd.ntmps47
  go_wp2
  go_loopw [0, 9] (fun v i wr => ∃ (j : Nat) (ad : Option Addr) (N c' : Nat), i = .int .i64 j ∧ j ≤ k ∧ v = .slice ad N c' ∧ Own wr B (.slice ad N c') (l ++ fixedB j u) ∧ Below B w wr)
    (fun _ i _ => k - (intOf i).toNat)
  case atStart => exact ⟨0, a, _, c, rfl, by omega, rfl, by simpa [fixedB] using hown, Below.refl _ _⟩
  case round =>
    obtain ⟨j, ad, N, c', rfl, hj, rfl, ho, hb⟩ := hrel
    have hz := hb.size
    have hfl := fixedB_length j u
    have HL := Lib.hid hfl; clear hfl
    by_cases h : j < k
    · have HB := Lib.hid (byte_shr u j)
      go_wp2_with (at_builtin; refine wp_append_bytes rfl _ _ rfl _ (l ++ fixedB j u) [UInt8.ofNat (u / 2 ^ (8 * j))] rfl B (ho.alloc _) (some ⟨wr.heap.size, 0, none⟩) 1 1 rfl (sl_new1 _ _ _ HB.out) (by rw [List.length_append, HL.out]; omega) (by simp; omega) ?_; intro w2 ad2 N2 c2 hN2 hown2 hb2)
      go_roundw
      case rel => exact ⟨j + 1, _, _, _, by go_num, by omega, rfl, by rw [fixedB, ← List.append_assoc]; exact hown2, (hb.alloc (by omega) _).trans hb2⟩
      case measure => simp [intOf]; omega
    · obtain rfl : j = k := by omega
      go_wp2
      go_ret
      obtain ⟨a9, c9, e9, hs9⟩ := ho.sl
      cases e9
      exact ⟨_, _, _, rfl, Lib.hid rfl, ho, hb⟩

set_option maxHeartbeats 400000 in
theorem fixed_yes (a : Option Addr) (n c : Nat) (l : List UInt8) (w : World) (hs : Sl w a n c l) (hn : n ≤ 70368744177664) (u : Nat) (hu : u ≤ 18446744073709551615) (k : Nat) (hk : (k == 4 || k == 8) = true) :
    Calls Tryd.prog 19 #[.slice a n c, .int .u64 u, .int .i64 k] w (Built (l ++ fixedB k u) w) := by
  have hk' : k = 4 ∨ k = 8 := by simpa using hk
  have hln := Lib.hid hs.len
  have hki : (((k : Int) == 4 || (k : Int) == 8)) = true := by rcases hk' with rfl | rfl <;> rfl
  clear hk
  have HK := Lib.hid hki; clear hki
  have hk8 : k ≤ 8 := by omega
  have HK' := Lib.hid hk'; clear hk'
  go_enter Tryd.func19, Tryd.ntmps19
  go_wp2_with fail
  refine (fixedSize_any _ _).mono ?_
  rintro e w' ⟨rfl, rfl⟩
  rw [HK.out]
  go_wp2_with fail
  refine (grown_any a n c l _ hs _ (by omega) (by omega)).mono ?_
  rintro e w1 ⟨a1, N1, c1, rfl, hN1, hown1, hb1⟩
  go_wp2_with fail
  refine (addFixed_any w.heap.size a1 N1 c1 l _ hown1 u hu k hk8 hb1.size (by have := hln.out; omega)).mono ?_
  rintro e w2 ⟨a2, N2, c2, rfl, hN2, hown2, hb2⟩
  go_wp2_with fail
  go_ret
  exact ⟨_, _, _, rfl, hN2, hown2, hb1.trans hb2⟩
set_option maxHeartbeats 400000 in
theorem fixed_no (a : Option Addr) (n c : Nat) (l : List UInt8) (w : World) (hs : Sl w a n c l) (hn : n ≤ 70368744177664) (u : Nat) (hu : u ≤ 18446744073709551615) (k : Int) (hk : (k == 4 || k == 8) = false) :
    Calls Tryd.prog 19 #[.slice a n c, .int .u64 u, .int .i64 k] w (Built l w) := by
  have HK := Lib.hid hk; clear hk
  go_enter Tryd.func19, Tryd.ntmps19
  go_wp2_with fail
  refine (fixedSize_any _ _).mono ?_
  rintro e w' ⟨rfl, rfl⟩
  rw [HK.out]
  go_wp2_with fail
  refine (grown_any a n c l _ hs _ (by omega) (by omega)).mono ?_
  rintro e w1 ⟨a1, N1, c1, rfl, hN1, hown1, hb1⟩
  go_wp2_with fail
  go_ret
  exact ⟨_, _, _, rfl, hN1, hown1, hb1⟩

set_option maxRecDepth 100000 in
set_option maxHeartbeats 1000000 in
theorem fixedr_yes (u : Nat) (hu : u ≤ 18446744073709551615) (k : Nat) (hk : k = 4 ∨ k = 8) (w : World) :
    Calls Tryd.prog 20 #[.int .u64 u, .int .i64 k] w (Built (fixedB k u) w) := by
  rcases hk with rfl | rfl
  · show Calls Tryd.prog 20 #[.int .u64 u, .int .i64 4] w _
    go_enter Tryd.func20, Tryd.ntmps20
    go_wp2
    go_loopw [5, 6] (fun v i wr => ∃ (j : Nat) (ad : Option Addr) (N c' : Nat), i = .int .i64 j ∧ j ≤ 4 ∧ v = .slice ad N c' ∧ Own wr w.heap.size (.slice ad N c') (fixedB j u) ∧ Below w.heap.size w wr)
      (fun _ i _ => 4 - (intOf i).toNat)
    case atStart => exact ⟨0, none, 0, 0, rfl, by omega, rfl, Own.nil _ _, Below.refl _ _⟩
    case round =>
      obtain ⟨j, ad, N, c', rfl, hj, rfl, ho, hb⟩ := hrel
      have hz := hb.size
      have HL := Lib.hid (fixedB_length j u)
      by_cases h : j < 4
      · have HB := Lib.hid (byte_shr u j)
        go_wp2_with (at_builtin; refine wp_append_bytes rfl _ _ rfl _ (fixedB j u) [UInt8.ofNat (u / 2 ^ (8 * j))] rfl w.heap.size (ho.alloc _) (some ⟨wr.heap.size, 0, none⟩) 1 1 rfl (sl_new1 _ _ _ HB.out) (by rw [HL.out]; omega) (by simp; omega) ?_; intro w2 ad2 N2 c2 hN2 hown2 hb2)
        go_roundw
        case rel => exact ⟨j + 1, _, _, _, by go_num, by omega, rfl, by rw [fixedB]; exact hown2, (hb.alloc (by omega) _).trans hb2⟩
        case measure => simp [intOf]; omega
      · obtain rfl : j = 4 := by omega
        go_wp2
        go_ret
        obtain ⟨a9, c9, e9, hs9⟩ := ho.sl
        cases e9
        exact ⟨_, _, _, rfl, Lib.hid rfl, ho, hb⟩
  · show Calls Tryd.prog 20 #[.int .u64 u, .int .i64 8] w _
    go_enter Tryd.func20, Tryd.ntmps20
    go_wp2
    go_loopw [5, 6] (fun v i wr => ∃ (j : Nat) (ad : Option Addr) (N c' : Nat), i = .int .i64 j ∧ j ≤ 8 ∧ v = .slice ad N c' ∧ Own wr w.heap.size (.slice ad N c') (fixedB j u) ∧ Below w.heap.size w wr)
      (fun _ i _ => 8 - (intOf i).toNat)
    case atStart => exact ⟨0, none, 0, 0, rfl, by omega, rfl, Own.nil _ _, Below.refl _ _⟩
    case round =>
      obtain ⟨j, ad, N, c', rfl, hj, rfl, ho, hb⟩ := hrel
      have hz := hb.size
      have HL := Lib.hid (fixedB_length j u)
      by_cases h : j < 8
      · have HB := Lib.hid (byte_shr u j)
        go_wp2_with (at_builtin; refine wp_append_bytes rfl _ _ rfl _ (fixedB j u) [UInt8.ofNat (u / 2 ^ (8 * j))] rfl w.heap.size (ho.alloc _) (some ⟨wr.heap.size, 0, none⟩) 1 1 rfl (sl_new1 _ _ _ HB.out) (by rw [HL.out]; omega) (by simp; omega) ?_; intro w2 ad2 N2 c2 hN2 hown2 hb2)
        go_roundw
        case rel => exact ⟨j + 1, _, _, _, by go_num, by omega, rfl, by rw [fixedB]; exact hown2, (hb.alloc (by omega) _).trans hb2⟩
        case measure => simp [intOf]; omega
      · obtain rfl : j = 8 := by omega
        go_wp2
        go_ret
        obtain ⟨a9, c9, e9, hs9⟩ := ho.sl
        cases e9
        exact ⟨_, _, _, rfl, Lib.hid rfl, ho, hb⟩
set_option maxHeartbeats 400000 in
theorem fixedr_no (u : Nat) (hu : u ≤ 18446744073709551615) (k : Int) (hk0 : -9223372036854775808 ≤ k) (hk1 : k ≤ 9223372036854775807) (hk : (k == 4 || k == 8) = false) (w : World) :
    Calls Tryd.prog 20 #[.int .u64 u, .int .i64 k] w (Built [] w) := by
  have h4 : (k == 4) = false := by simp at hk; rw [beq_eq_false_iff_ne]; omega
  have h8 : (k == 8) = false := by simp at hk; rw [beq_eq_false_iff_ne]; omega
  clear hk
  by_cases h : 0 < k
  all_goals
    go_enter Tryd.func20, Tryd.ntmps20
    go_wp2
    refine wp_loop_rounds 1 ?_
    rw [rounds_succ]
    go_wp2
    go_ret
    exact ⟨_, _, _, rfl, Lib.hid rfl, Own.nil _ _, Below.refl _ _⟩

/-- What Unfixed answers. -/
theorem unfixed_ok (a : Option Addr) (n c : Nat) (l : List UInt8) (w : World) (hs : Sl w a n c l) (k : Nat) (hk : k = 4 ∨ k = 8) (hle : k ≤ n) :
    Calls Tryd.prog 21 #[.slice a n c, .int .i64 k] w fun e w' => e = .returned (.tuple #[.int .u64 ((leNum (l.take k) : Nat) : Int), .int .i64 k, .nilIface]) ∧ w = w' := by
  have hm := hs.nine
  have hl := hs.len
  subst hl
  have hk8 : k ≤ 8 := by omega
  have hki : (((k : Int) == 4 || (k : Int) == 8)) = true := by rcases hk with rfl | rfl <;> rfl
  have HK := Lib.hid hki; clear hki
  have HK' := Lib.hid hk; clear hk
  go_enter Tryd.func21, Tryd.ntmps21
  go_wp2_with fail
  refine (fixedSize_any _ _).mono ?_
  rintro e w' ⟨rfl, rfl⟩
  rw [HK.out]
  go_wp2_with fail
  go_loop [7, 19] (fun vx vi => ∃ j : Nat, vi = .int .i64 j ∧ vx = .int .u64 (leNum (l.take j) : Nat) ∧ j ≤ k)
    (fun _ vi => k - (intOf vi).toNat)
  case atStart => exact ⟨0, rfl, by simp [leNum], by omega⟩
  case round =>
    obtain ⟨j, rfl, rfl, hj⟩ := hrel
    by_cases h : j < k
    · have hts := take_snoc' (l := l) (k := j) (by omega)
      obtain ⟨b, o, rfl⟩ := hs.some (by omega)
      have hc := hs.cell (i := j) (by omega)
      have hlt := leNum_lt (l.take j)
      have hsn := leNum_snoc (l.take j) (l[j]'(by omega))
      rw [← hts] at hsn
      have hlj : (l.take j).length = j := by simp; omega
      rw [hlj] at hlt hsn
      clear hlj hts
      generalize l[j]'(by omega) = x at hc hsn
      have HV := Lib.hid (or_le (x := x) (show j < 8 by omega) hlt)
      have HS := Lib.hid hsn; clear hsn
      clear hlt
      have hx := x.toNat_lt
      go_wp2
      go_round
      case rel => exact ⟨j + 1, by go_num, by rw [HS.out]; exact congrArg (Value.int .u64) HV.out, by omega⟩
      case measure => simp [intOf]; omega
    · obtain rfl : j = k := by omega
      go_wp2
      go_ret3
      exact ⟨rfl, rfl⟩
theorem unfixed_short (ea : Nat → Addr) (a : Option Addr) (n c : Nat) (l : List UInt8) (w : World) (hs : Sl w a n c l) (E : Env w ea) (k : Nat) (hk : k = 4 ∨ k = 8) (hle : n < k) :
    Calls Tryd.prog 21 #[.slice a n c, .int .i64 k] w (Drawn (.returned (.tuple #[.int .u64 0, .int .i64 0, errV ea 101])) w) := by
  have hc := E.e101
  have hk8 : k ≤ 8 := by omega
  have hki : (((k : Int) == 4 || (k : Int) == 8)) = true := by rcases hk with rfl | rfl <;> rfl
  have HK := Lib.hid hki; clear hki hk
  go_enter Tryd.func21, Tryd.ntmps21
  go_wp2_with fail
  refine (fixedSize_any _ _).mono ?_
  rintro e w' ⟨rfl, rfl⟩
  rw [HK.out]
  go_wp2_with fail
  go_quiet (fail)
  go_wp2
  go_ret3
  exact ⟨rfl, _, rfl⟩
theorem unfixed_no (ea : Nat → Addr) (a : Option Addr) (n c : Nat) (w : World) (E : Env w ea) (k : Int) (hk : (k == 4 || k == 8) = false) :
    Calls Tryd.prog 21 #[.slice a n c, .int .i64 k] w (Drawn (.returned (.tuple #[.int .u64 0, .int .i64 0, errV ea 120])) w) := by
  have hc := E.e120
  have HK := Lib.hid hk; clear hk
  go_enter Tryd.func21, Tryd.ntmps21
  go_wp2_with fail
  refine (fixedSize_any _ _).mono ?_
  rintro e w' ⟨rfl, rfl⟩
  rw [HK.out]
  go_wp2_with fail
  go_quiet (fail)
  go_wp2
  go_ret3
  exact ⟨rfl, _, rfl⟩

set_option maxRecDepth 100000 in
set_option maxHeartbeats 1000000 in
theorem unfixedr_ok (a : Option Addr) (n c : Nat) (l : List UInt8) (w : World) (hs : Sl w a n c l) (k : Nat) (hk : k = 4 ∨ k = 8) (hle : k ≤ n) :
    Calls Tryd.prog 22 #[.slice a n c, .int .i64 k] w fun e w' => e = .returned (.tuple #[.int .u64 ((leNum (l.take k) : Nat) : Int), .int .i64 k, .int .i64 0]) ∧ w = w' := by
  have hm := hs.nine
  have hl := hs.len
  subst hl
  have hk8 : k ≤ 8 := by omega
  have hki : (((k : Int) != 4) && ((k : Int) != 8)) = false := by rcases hk with rfl | rfl <;> rfl
  rcases hk with rfl | rfl
  · show Calls Tryd.prog 22 #[.slice a l.length c, .int .i64 4] w _
    go_enter Tryd.func22, Tryd.ntmps22
    go_wp2
    go_loop [7, 8] (fun vx vi => ∃ j : Nat, vi = .int .i64 j ∧ vx = .int .u64 (leNum (l.take j) : Nat) ∧ j ≤ 4)
      (fun _ vi => 4 - (intOf vi).toNat)
    case atStart => exact ⟨0, rfl, by simp [leNum], by omega⟩
    case round =>
      obtain ⟨j, rfl, rfl, hj⟩ := hrel
      by_cases h : j < 4
      · have hts := take_snoc' (l := l) (k := j) (by omega)
        obtain ⟨b, o, rfl⟩ := hs.some (by omega)
        have hc := hs.cell (i := j) (by omega)
        have hlt := leNum_lt (l.take j)
        have hsn := leNum_snoc (l.take j) (l[j]'(by omega))
        rw [← hts] at hsn
        have hlj : (l.take j).length = j := by simp; omega
        rw [hlj] at hlt hsn
        clear hlj hts
        generalize l[j]'(by omega) = x at hc hsn
        have HV := Lib.hid (or_le (x := x) (show j < 8 by omega) hlt)
        have HS := Lib.hid hsn; clear hsn
        clear hlt
        have hx := x.toNat_lt
        go_wp2
        go_round
        case rel => exact ⟨j + 1, by go_num, by rw [HS.out]; exact congrArg (Value.int .u64) HV.out, by omega⟩
        case measure => simp [intOf]; omega
      · obtain rfl : j = 4 := by omega
        go_wp2
        go_ret3
        exact ⟨rfl, rfl⟩
  · show Calls Tryd.prog 22 #[.slice a l.length c, .int .i64 8] w _
    go_enter Tryd.func22, Tryd.ntmps22
    go_wp2
    go_loop [7, 8] (fun vx vi => ∃ j : Nat, vi = .int .i64 j ∧ vx = .int .u64 (leNum (l.take j) : Nat) ∧ j ≤ 8)
      (fun _ vi => 8 - (intOf vi).toNat)
    case atStart => exact ⟨0, rfl, by simp [leNum], by omega⟩
    case round =>
      obtain ⟨j, rfl, rfl, hj⟩ := hrel
      by_cases h : j < 8
      · have hts := take_snoc' (l := l) (k := j) (by omega)
        obtain ⟨b, o, rfl⟩ := hs.some (by omega)
        have hc := hs.cell (i := j) (by omega)
        have hlt := leNum_lt (l.take j)
        have hsn := leNum_snoc (l.take j) (l[j]'(by omega))
        rw [← hts] at hsn
        have hlj : (l.take j).length = j := by simp; omega
        rw [hlj] at hlt hsn
        clear hlj hts
        generalize l[j]'(by omega) = x at hc hsn
        have HV := Lib.hid (or_le (x := x) (show j < 8 by omega) hlt)
        have HS := Lib.hid hsn; clear hsn
        clear hlt
        have hx := x.toNat_lt
        go_wp2
        go_round
        case rel => exact ⟨j + 1, by go_num, by rw [HS.out]; exact congrArg (Value.int .u64) HV.out, by omega⟩
        case measure => simp [intOf]; omega
      · obtain rfl : j = 8 := by omega
        go_wp2
        go_ret3
        exact ⟨rfl, rfl⟩
theorem unfixedr_short (a : Option Addr) (n c : Nat) (l : List UInt8) (w : World) (hs : Sl w a n c l) (k : Nat) (hk : k = 4 ∨ k = 8) (hle : n < k) :
    Calls Tryd.prog 22 #[.slice a n c, .int .i64 k] w fun e w' => e = .returned (.tuple #[.int .u64 0, .int .i64 0, .int .i64 101]) ∧ w = w' := by
  rcases hk with rfl | rfl
  · show Calls Tryd.prog 22 #[.slice a n c, .int .i64 4] w _
    go_enter Tryd.func22, Tryd.ntmps22
    go_wp2
    go_ret3
    exact ⟨rfl, rfl⟩
  · show Calls Tryd.prog 22 #[.slice a n c, .int .i64 8] w _
    go_enter Tryd.func22, Tryd.ntmps22
    go_wp2
    go_ret3
    exact ⟨rfl, rfl⟩
theorem unfixedr_no (a : Option Addr) (n c : Nat) (w : World) (k : Int) (hk : (k == 4 || k == 8) = false) :
    Calls Tryd.prog 22 #[.slice a n c, .int .i64 k] w fun e w' => e = .returned (.tuple #[.int .u64 0, .int .i64 0, .int .i64 120]) ∧ w = w' := by
  have h4 : (k != 4) = true := by simp at hk; rw [bne_iff_ne]; omega
  have h8 : (k != 8) = true := by simp at hk; rw [bne_iff_ne]; omega
  clear hk
  go_enter Tryd.func22, Tryd.ntmps22
  go_wp2
  go_ret3
  exact ⟨rfl, rfl⟩

theorem strOf_map (l : List UInt8) : strOfNums (l.map fun x => (x.toNat : Int)) = ⟨l.toArray⟩ := by
  unfold strOfNums
  rw [List.map_map, show ((fun n : Int => UInt8.ofNat n.toNat) ∘ fun x : UInt8 => (x.toNat : Int)) = id by funext x; simp]
  rw [List.map_id]
/-- 'string(b)'. -/
theorem Sl.conv {w : World} {a : Option Addr} {n c : Nat} {l : List UInt8} (h : Sl w a n c l) :
    (convert 23 9 (.slice a n c)).run Tryd.prog w = .ok (.string ⟨l.toArray⟩) w := by
  have hl := h.len
  subst hl
  by_cases hp : l = []
  · subst hp
    cases a with
    | none =>
      have h0 := run_convert_bytes_nil (P := Tryd.prog) w _ _ Tryd.underlying23 Tryd.underlying5 0 c _ Tryd.underlying9
      exact h0
    | some p =>
      have hr := run_loadCells_list (P := Tryd.prog) w p ([] : List Value) (fun j v hj => by cases j <;> cases hj)
      have h1 := run_bytesToString (P := Tryd.prog) w p 0 c ([] : List Int) hr
      have h2 := run_convert_bytes_string (P := Tryd.prog) w 23 9 _ (Option.some p) 0 c Tryd.underlying23 Tryd.underlying5 Tryd.underlying9
      exact h2.trans h1
  · obtain ⟨b, o, rfl⟩ := h.some (by cases l with | nil => exact absurd rfl hp | cons x m => simp)
    have := run_convert_bytes_arg (P := Tryd.prog) w _ _ Tryd.underlying23 Tryd.underlying5 b o l.length c (l.map fun x => (x.toNat : Int)) (by simp) (fun i hi => by
      rw [h.cell hi, List.getD, List.getElem?_map, List.getElem?_eq_getElem hi]; rfl) _ Tryd.underlying9
    rw [this, strOf_map]
theorem same_any (a : Option Addr) (n c : Nat) (l : List UInt8) (a' : Option Addr) (n' c' : Nat) (l' : List UInt8) (w : World) (hs : Sl w a n c l) (hs' : Sl w a' n' c' l') :
    Calls Tryd.prog 14 #[.slice a n c, .slice a' n' c'] w fun e w' => e = .returned (.bool (l == l')) ∧ w = w' := by
  have h1 := hs.conv
  have h2 := hs'.conv
  go_enter Tryd.func14, Tryd.ntmps14
  go_wp2
  go_ret
  exact ⟨rfl, rfl⟩
end Go.Proofs.YtclnmajjkchfmaaDoor
