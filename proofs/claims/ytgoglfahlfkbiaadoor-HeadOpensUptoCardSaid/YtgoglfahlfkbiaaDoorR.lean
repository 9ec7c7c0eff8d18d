/-
  CONTRACTS: digits; the keeper of an answer's status.
-/
import Derived.Test.YtgoglfahlfkbiaaDoorQ
namespace Go.Proofs.YtgoglfahlfkbiaaDoor
open Go.RowKit Tt

/-- The number that digits are. -/
def decV (l : List UInt8) : Nat := l.foldl (fun n c => n * 10 + (c.toNat - 48)) 0
theorem decV_take (l : List UInt8) {i : Nat} (h : i < l.length) : decV (l.take (i + 1)) = decV (l.take i) * 10 + ((l[i]).toNat - 48) := by
  unfold decV
  rw [List.take_add_one, List.getElem?_eq_getElem h, List.foldl_append]
  rfl
theorem decV_lt : ∀ (k : Nat) (l : List UInt8), l.length = k → (∀ c ∈ l, digitB c = true) → decV l < 10 ^ k
  | 0, l, h, _ => by
    obtain rfl := List.length_eq_zero_iff.1 h
    decide
  | k + 1, l, h, hd => by
    have hne : l ≠ [] := by intro e; subst e; simp at h
    obtain ⟨m, c, rfl⟩ : ∃ m c, l = m ++ [c] := ⟨l.dropLast, l.getLast hne, (List.dropLast_concat_getLast hne).symm⟩
    have hm : m.length = k := by simp at h; exact h
    have h1 := decV_lt k m hm (fun c hc => hd c (by simp [hc]))
    have h2 := hd c (by simp)
    unfold digitB at h2
    have h2 := of_decide_eq_true h2
    unfold decV at h1 ⊢
    rw [List.foldl_append, Nat.pow_succ]
    simp only [List.foldl_cons, List.foldl_nil]
    omega
/-- So many digits and nothing else. -/
def digP (s : ByteArray) (least most : Nat) : Nat × Bool := if s.size < least ∨ most < s.size then (0, false) else if s.data.toList.all digitB = true then (decV s.data.toList, true) else (0, false)
theorem all_dig {s : ByteArray} (h : ∀ i (h : i < s.size), digitB s[i] = true) : s.data.toList.all digitB = true := by
  rw [List.all_eq_true]
  intro x hx
  obtain ⟨i, hi, rfl⟩ := List.mem_iff_getElem.1 hx
  have hi' : i < s.size := by simpa using hi
  have := h i hi'
  simpa [ByteArray.getElem_eq_getElem_data] using this
theorem no_dig {s : ByteArray} {k : Nat} (hk : k < s.size) (h : digitB s[k] = false) : s.data.toList.all digitB = false := by
  rw [List.all_eq_false]
  exact ⟨s[k], by simp [ByteArray.getElem_eq_getElem_data], by simp [h]⟩
theorem dig_get (s : ByteArray) {k : Nat} (hk : k < s.size) (hk' : k < s.data.toList.length) : s.data.toList[k] = s[k] := by simp [ByteArray.getElem_eq_getElem_data]
set_option maxRecDepth 100000 in
set_option maxHeartbeats 2000000 in
theorem digits_any (s : ByteArray) (least most : Nat) (w : World) (h1 : least ≤ 10) (h2 : most ≤ 10) (hs : s.size ≤ 140737488355328) : Calls Tryd.prog 40 #[.string s, .int .i64 (least : Int), .int .i64 (most : Int)] w fun e w' => e = .returned (.tuple #[.int .i64 ((digP s least most).1 : Int), .bool (digP s least most).2]) ∧ w = w' := by
  by_cases hl : s.size < least
  · have HD : Hid (digP s least most = (0, false)) := Lib.hid (by unfold digP; rw [if_pos (Or.inl hl)])
    have hI : decide (s.size < least) = true := decide_eq_true hl
    clear hl
    go_enter Tryd.func40, Tryd.ntmps40
    go_wp2_with fail
    go_ret2
    exact ⟨by rw [HD.out]; rfl, rfl⟩
  · by_cases hm : most < s.size
    · have HD : Hid (digP s least most = (0, false)) := Lib.hid (by unfold digP; rw [if_pos (Or.inr hm)])
      have hI : decide (s.size < least) = false := decide_eq_false hl
      have hJ : decide (most < s.size) = true := decide_eq_true hm
      clear hl hm
      go_enter Tryd.func40, Tryd.ntmps40
      go_wp2_with fail
      go_ret2
      exact ⟨by rw [HD.out]; rfl, rfl⟩
    · have HD : Hid (digP s least most = if s.data.toList.all digitB = true then (decV s.data.toList, true) else (0, false)) := Lib.hid (by unfold digP; rw [if_neg (by omega)])
      have hI : decide (s.size < least) = false := decide_eq_false hl
      have hJ : decide (most < s.size) = false := decide_eq_false hm
      have hs10 : s.size ≤ 10 := by omega
      have HLEN : Hid (s.data.toList.length = s.size) := Lib.hid (by simp)
      clear hl hm
      go_enter Tryd.func40, Tryd.ntmps40
      go_wp2_with fail
      go_loop [8, 22] (fun s8 s22 => ∃ k : Nat, s22 = .int .i64 (k : Int) ∧ k ≤ s.size ∧ s8 = .int .i64 ((decV (s.data.toList.take k) : Nat) : Int) ∧ Hid (∀ i (h : i < s.size), i < k → digitB s[i] = true)) (fun _ s22 => s.size - (intOf s22).toNat)
      case atStart => exact ⟨0, rfl, Nat.zero_le _, rfl, Lib.hid fun i _ h => by omega⟩
      case round =>
        obtain ⟨k, rfl, hk, rfl, HA⟩ := hrel
        by_cases hlt : k < s.size
        · have HDG := Lib.hid (fun W => digit_any (s[k]'hlt) W)
          have hkl : k < s.data.toList.length := by rw [HLEN.out]; exact hlt
          have hst := decV_take s.data.toList hkl
          rw [dig_get s hlt hkl] at hst
          have hbd : decV (s.data.toList.take k) < 10 ^ k := decV_lt k _ (by rw [List.length_take]; omega) (fun c hc => by
            obtain ⟨i, hi, rfl⟩ := List.mem_iff_getElem.1 hc
            rw [List.length_take] at hi
            rw [List.getElem_take, dig_get s (by omega) (by omega)]
            exact HA.out i (by omega) (by omega))
          have hb2 : 10 ^ k ≤ 10 ^ 9 := Nat.pow_le_pow_right (by omega) (by omega)
          have hb3 : decV (s.data.toList.take k) < 1000000000 := Nat.lt_of_lt_of_le hbd (by simpa using hb2)
          have HNX : Hid (digitB s[k] = true → ∀ i (h : i < s.size), i < k + 1 → digitB s[i] = true) := Lib.hid fun hd i hi h => by
            by_cases hik : i < k
            · exact HA.out i hi hik
            · obtain rfl : i = k := by omega
              exact hd
          have HNO : Hid (digitB s[k] = false → s.data.toList.all digitB = false) := Lib.hid (no_dig hlt)
          have hxl := (s[k]).toNat_lt
          cases hd : digitB s[k] with
          | true =>
            have HN := Lib.hid (HNX.out hd)
            have hx : 48 ≤ (s[k]).toNat ∧ (s[k]).toNat ≤ 57 := by unfold digitB at hd; exact of_decide_eq_true hd
            rw [hd] at HDG
            have HST := Lib.hid hst
            obtain ⟨hx1, hx2⟩ := hx
            clear hd HNX HNO hst hbd hb2
            have hw8 : IntKind.u8.wrap (((s[k]).toNat : Int) - 48) = ((s[k]).toNat : Int) - 48 := by rw [IntKind.wrap_u8]; omega
            generalize decV (s.data.toList.take k) = V at HST hb3
            go_wp2_with fail
            refine (HDG.out _).mono ?_
            rintro e w' ⟨rfl, rfl⟩
            go_wp2_with fail
            refine ⟨⟨k + 1, by go_num, by omega, ?_, HN⟩, by simp [intOf]; omega⟩
            rw [HST.out]
            congr 1
            omega
          | false =>
            have HF : Hid (digP s least most = (0, false)) := Lib.hid (by rw [HD.out, HNO.out hd]; rfl)
            rw [hd] at HDG
            clear hd HNX HNO hst hbd hb2
            generalize decV (s.data.toList.take k) = V at hb3
            go_wp2_with fail
            refine (HDG.out _).mono ?_
            rintro e w' ⟨rfl, rfl⟩
            go_wp2_with fail
            go_ret2
            exact ⟨by rw [HF.out]; rfl, rfl⟩
        · obtain rfl : k = s.size := by omega
          have HF : Hid (digP s least most = (decV s.data.toList, true)) := Lib.hid (by rw [HD.out, if_pos (all_dig fun i hi => HA.out i hi hi)])
          have hte : s.data.toList.take s.size = s.data.toList := by rw [List.take_of_length_le (by rw [HLEN.out]; exact Nat.le_refl _)]
          rw [hte]
          go_wp2_with fail
          go_ret2
          exact ⟨by rw [HF.out]; rfl, rfl⟩
/-- An answer in a box: its status; nothing behind it. -/
structure AB (w : World) (r : Nat) (n : Int) : Prop where
  c0 : w.cell? ⟨r, 0, none⟩ = some (.int .i64 n)
  c1 : w.cell? ⟨r, 1, none⟩ = some (.slice none 0 0)
  z : ∀ i, w.frozen? ⟨r, i, none⟩ = false
theorem AB.blk {w w' : World} {r : Nat} {n : Int} (h : AB w r n) (hb : w'.heap[r]? = w.heap[r]?) : AB w' r n :=
  ⟨(World.cell?_of_block (a := ⟨r, 0, none⟩) hb).trans h.c0, (World.cell?_of_block (a := ⟨r, 1, none⟩) hb).trans h.c1, fun i => (World.frozen?_of_block (a := ⟨r, i, none⟩) hb).trans (h.z i)⟩
theorem AB.set {w : World} {r : Nat} {n : Int} (h : AB w r n) (m : Int) : AB (w.setCell ⟨r, 0, none⟩ (.int .i64 m)) r m :=
  ⟨cell_setS _ _ _ _ _ h.c0, (cell_setN _ _ _ _ _ (by omega)).trans h.c1, fun i => by rw [World.frozen?_setCell]; exact h.z i⟩
theorem ab_new (w : World) : AB (w.alloc (.cells #[.int .i64 0, .slice none 0 0] 36)) w.heap.size 0 := ⟨by simp, by simp, fun i => by simp⟩
/-- A status that may be. -/
def statB (v : ByteArray) : Bool := (digP v 3 3).2 && decide (100 ≤ (digP v 3 3).1 ∧ (digP v 3 3).1 ≤ 599)
set_option maxHeartbeats 1000000 in
theorem keep_status (v : ByteArray) (q r : Nat) (n : Int) (w : World) (hv : v.size ≤ 140737488355328) (hq : w.cell? ⟨q, 0, none⟩ = some (.pointer (some ⟨r, 0, none⟩))) (ha : AB w r n) :
    Calls Tryd.prog 55 #[.string v, .pointer (some ⟨q, 0, none⟩)] w fun e w' => e = .returned (.bool (statB v)) ∧ w' = w.setCell ⟨r, 0, none⟩ (.int .i64 ((digP v 3 3).1 : Int)) := by
  have HD := Lib.hid (digits_any v 3 3 w (by omega) (by omega) hv)
  obtain ⟨c0, c1, z⟩ := ha
  unfold statB
  have hwr : ((3 : Nat) : Int) = 3 := rfl
  rw [hwr] at HD
  clear hwr
  generalize (digP v 3 3).1 = N at HD ⊢
  generalize (digP v 3 3).2 = ok at HD ⊢
  have z0 := z 0
  clear z
  cases ok with
  | false =>
    go_enter Tryd.func55, Tryd.ntmps55
    go_wp2_with fail
    refine HD.out.mono ?_
    rintro e w' ⟨rfl, rfl⟩
    go_wp2_with fail
    go_ret
    exact ⟨rfl, rfl⟩
  | true =>
    by_cases h1 : 100 ≤ N
    · by_cases h2 : N ≤ 599
      · have d1 : (100 : Int) ≤ (N : Int) := by omega
        have d2 : (N : Int) ≤ 599 := by omega
        have HR : Hid ((true && decide (100 ≤ N ∧ N ≤ 599)) = true) := Lib.hid (by simp [h1, h2])
        rw [HR.out]
        clear h1 h2
        go_enter Tryd.func55, Tryd.ntmps55
        go_wp2_with fail
        refine HD.out.mono ?_
        rintro e w' ⟨rfl, rfl⟩
        go_wp2_with fail
        go_ret
        exact ⟨rfl, rfl⟩
      · have d1 : (100 : Int) ≤ (N : Int) := by omega
        have d2 : decide ((N : Int) ≤ 599) = false := decide_eq_false (by omega)
        have HR : Hid ((true && decide (100 ≤ N ∧ N ≤ 599)) = false) := Lib.hid (by simp [h2])
        rw [HR.out]
        clear h1 h2
        go_enter Tryd.func55, Tryd.ntmps55
        go_wp2_with fail
        refine HD.out.mono ?_
        rintro e w' ⟨rfl, rfl⟩
        go_wp2_with fail
        go_ret
        exact ⟨rfl, rfl⟩
    · have d1 : decide ((100 : Int) ≤ (N : Int)) = false := decide_eq_false (by omega)
      have HR : Hid ((true && decide (100 ≤ N ∧ N ≤ 599)) = false) := Lib.hid (by simp [h1])
      rw [HR.out]
      clear h1
      go_enter Tryd.func55, Tryd.ntmps55
      go_wp2_with fail
      refine HD.out.mono ?_
      rintro e w' ⟨rfl, rfl⟩
      go_wp2_with fail
      go_ret
      exact ⟨rfl, rfl⟩
def stL : List UInt8 := [58, 115, 116, 97, 116, 117, 115]
/-- An answer's keeper. -/
structure AnsMap (w : World) (p r mb bx : Nat) (D : DataW Value) : Prop where
  map : w.ownsMap Tryd.prog 9 fnR mb 8 D
  has : ∀ l : List UInt8, Maps.has D (.string l) = decide (l = stL)
  at_ : ∀ z, D.atKey (.string stL) z = .held (fnC 55 bx)
  pm : p ≤ mb
  cb : w.cell? ⟨bx, 0, none⟩ = some (.pointer (some ⟨r, 0, none⟩))
  rq : AB w r 0
def OfAnsPost (r : Nat) (w : World) (e : Ending) (w' : World) : Prop := Below w.heap.size w w' ∧ ∃ mb bx D, e = .returned (.map (some mb)) ∧ AnsMap w' w.heap.size r mb bx D ∧ w.heap.size ≤ bx
end Go.Proofs.YtgoglfahlfkbiaaDoor
