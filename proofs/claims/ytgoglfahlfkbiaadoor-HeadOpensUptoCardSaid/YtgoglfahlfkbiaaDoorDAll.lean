import Derived.Test.YtgoglfahlfkbiaaDoorT
import Derived.Test.YtgoglfahlfkbiaaDoorF
import Derived.Test.YtgoglfahlfkbiaaDoorI
import Derived.Test.YtgoglfahlfkbiaaDoorMo
import Derived.Test.YtgoglfahlfkbiaaDoorV
import Derived.Test.YtgoglfahlfkbiaaDoorO
namespace Go.Proofs.YtgoglfahlfkbiaaDoor
open Go.RowKit Tt

theorem full_nil : fullB ⟨#[]⟩ = false := by unfold fullB; rw [Lib.toList_data]; rfl
theorem ite_iff {α : Type} {p q : Prop} [Decidable p] [Decidable q] {a b : α} (h : p ↔ q) : (if p then a else b) = (if q then a else b) := by
  by_cases hp : p
  · rw [if_pos hp, if_pos (h.1 hp)]
  · rw [if_neg hp, if_neg (fun k => hp (h.2 k))]
def nmL (h : Hn) : List UInt8 := h.1.1.data.toList
/-- The values of a name. -/
def valsM (F : List Hn) (x : List UInt8) : List ByteArray := (F.filter fun h => decide (nmL h = x)).map fun h => h.1.2
def firstM (F : List Hn) (x : List UInt8) : ByteArray := (valsM F x).head?.getD ⟨#[]⟩
def colB (h : Hn) : Bool := pre1 58 h.1.1
theorem vals_cons (h : Hn) (t : List Hn) (x : List UInt8) : valsM (h :: t) x = if nmL h = x then h.1.2 :: valsM t x else valsM t x := by
  unfold valsM
  rw [List.filter_cons]
  by_cases e : nmL h = x
  · rw [if_pos (by simpa using e), if_pos e]; rfl
  · rw [if_neg (by simpa using e), if_neg e]
theorem vals_nil {F : List Hn} {x : List UInt8} : valsM F x = [] ↔ x ∉ F.map nmL := by
  induction F with
  | nil => simp [valsM]
  | cons h t ih =>
    rw [vals_cons]
    by_cases e : nmL h = x
    · rw [if_pos e]; simp [e]
    · rw [if_neg e, ih]; simp [Ne.symm e]
theorem nodup_vals : ∀ F : List Hn, (F.map nmL).Nodup ↔ ∀ h ∈ F, (valsM F (nmL h)).length ≤ 1
  | [] => by simp
  | h :: t => by
    rw [List.map_cons, List.nodup_cons, nodup_vals t, ← vals_nil]
    constructor
    · rintro ⟨h1, h2⟩ x hx
      rw [vals_cons]
      by_cases e : nmL h = nmL x
      · rw [if_pos e, ← e, h1]; simp
      · rw [if_neg e]
        rcases List.mem_cons.1 hx with rfl | hx
        · exact absurd rfl e
        · exact h2 x hx
    · intro hh
      have h1 := hh h (by simp)
      rw [vals_cons, if_pos rfl, List.length_cons] at h1
      refine ⟨List.length_eq_zero_iff.1 (by omega), fun x hx => ?_⟩
      have h2 := hh x (by simp [hx])
      rw [vals_cons] at h2
      split at h2
      · rw [List.length_cons] at h2; omega
      · exact h2
theorem vals_mem {F : List Hn} {x : List UInt8} {v : ByteArray} (h : v ∈ valsM F x) : ∃ y ∈ F, nmL y = x ∧ y.1.2 = v := by
  unfold valsM at h
  obtain ⟨y, hy, rfl⟩ := List.mem_map.1 h
  obtain ⟨h1, h2⟩ := List.mem_filter.1 hy
  exact ⟨y, h1, of_decide_eq_true h2, rfl⟩
theorem vals_in {F : List Hn} {y : Hn} (h : y ∈ F) : y.1.2 ∈ valsM F (nmL y) := by
  unfold valsM
  exact List.mem_map.2 ⟨y, List.mem_filter.2 ⟨h, by simp⟩, rfl⟩
theorem nodup_len {F : List Hn} (h : (F.map nmL).Nodup) (x : List UInt8) : (valsM F x).length ≤ 1 := by
  cases hv : valsM F x with
  | nil => simp
  | cons v l =>
    obtain ⟨y, hy, e, _⟩ := vals_mem (F := F) (x := x) (v := v) (by rw [hv]; simp)
    have := (nodup_vals F).1 h y hy
    rw [e, hv] at this
    exact this
theorem first_is {F : List Hn} (h : (F.map nmL).Nodup) {y : Hn} (hy : y ∈ F) : firstM F (nmL y) = y.1.2 := by
  have h1 := vals_in hy
  have h2 := nodup_len h (nmL y)
  unfold firstM
  cases hv : valsM F (nmL y) with
  | nil => rw [hv] at h1; cases h1
  | cons v l =>
    rw [hv] at h1 h2
    have : l = [] := List.length_eq_zero_iff.1 (by simp at h2; simpa using h2)
    subst this
    simp at h1
    simp [h1]
theorem first_full {F : List Hn} {x : List UInt8} (h : fullB (firstM F x) = true) : ∃ y ∈ F, nmL y = x ∧ y.1.2 = firstM F x := by
  unfold firstM at h ⊢
  cases hv : valsM F x with
  | nil => rw [hv] at h; have h' : fullB ⟨#[]⟩ = true := h; rw [full_nil] at h'; cases h'
  | cons v l =>
    obtain ⟨y, hy, e, e2⟩ := vals_mem (F := F) (x := x) (v := v) (by rw [hv]; simp)
    exact ⟨y, hy, e, by simpa using e2⟩

/-- The headers with a colon, one by one. -/
def takeF : SR → List Hn → Option SR
  | S, [] => some S
  | S, h :: t => if (markB h.1.1 && !seenB S.2 h.1.1) = true ∧ valueB h.1.2 = true ∧ okR h.1.1 h.1.2 = true then takeF (stR S h.1.1 h.1.2) t else none
theorem takeR_front : ∀ (L : List Hn) (S : SR), takeR S L = (takeF S (L.takeWhile colB)).map fun S' => (S', L.dropWhile colB)
  | [], S => rfl
  | h :: t, S => by
    simp only [takeR]
    by_cases hc : pre1 58 h.1.1 = true
    · rw [if_pos hc, List.takeWhile_cons_of_pos (show colB h = true from hc), List.dropWhile_cons_of_pos (show colB h = true from hc)]
      simp only [takeF]
      split
      · exact takeR_front t _
      · rfl
    · rw [if_neg hc, List.takeWhile_cons_of_neg (show ¬ colB h = true from hc), List.dropWhile_cons_of_neg (show ¬ colB h = true from hc)]
      rfl
theorem seen_snoc (l : List ByteArray) (x y : ByteArray) : seenB (l ++ [x]) y = (seenB l y || decide (x.data.toList = y.data.toList)) := by simp [seenB]
def GoodF (F : List Hn) : Prop := ∀ h ∈ F, markB h.1.1 = true ∧ valueB h.1.2 = true ∧ okR h.1.1 h.1.2 = true
open Classical in
theorem takeF_eq : ∀ (F : List Hn) (S : SR), takeF S F = if GoodF F ∧ (F.map nmL).Nodup ∧ (∀ h ∈ F, seenB S.2 h.1.1 = false) then some (F.foldl (fun S h => stR S h.1.1 h.1.2) S) else none
  | [], S => by
    exact (if_pos ⟨fun h hh => (by cases hh), List.nodup_nil, fun h hh => (by cases hh)⟩).symm
  | h :: t, S => by
    simp only [takeF]
    by_cases hA : (markB h.1.1 && !seenB S.2 h.1.1) = true ∧ valueB h.1.2 = true ∧ okR h.1.1 h.1.2 = true
    · rw [if_pos hA, takeF_eq t]
      obtain ⟨hm, hv, ho⟩ := hA
      simp only [Bool.and_eq_true, Bool.not_eq_true'] at hm
      refine ite_iff ?_
      constructor
      · rintro ⟨h1, h2, h3⟩
        have h3' : ∀ x ∈ t, seenB S.2 x.1.1 = false ∧ nmL h ≠ nmL x := fun x hx => by
          have := h3 x hx
          simp only [stR, seen_snoc, Bool.or_eq_false_iff, decide_eq_false_iff_not] at this
          exact this
        refine ⟨fun x hx => ?_, ?_, fun x hx => ?_⟩
        · rcases List.mem_cons.1 hx with rfl | hx
          · exact ⟨hm.1, hv, ho⟩
          · exact h1 x hx
        · rw [List.map_cons, List.nodup_cons]
          refine ⟨fun hc => ?_, h2⟩
          obtain ⟨x, hx, e⟩ := List.mem_map.1 hc
          exact (h3' x hx).2 e.symm
        · rcases List.mem_cons.1 hx with rfl | hx
          · exact hm.2
          · exact (h3' x hx).1
      · rintro ⟨h1, h2, h3⟩
        rw [List.map_cons, List.nodup_cons] at h2
        refine ⟨fun x hx => h1 x (by simp [hx]), h2.2, fun x hx => ?_⟩
        simp only [stR, seen_snoc, Bool.or_eq_false_iff, decide_eq_false_iff_not]
        refine ⟨h3 x (by simp [hx]), fun e => h2.1 (List.mem_map.2 ⟨x, hx, e.symm⟩)⟩
    · rw [if_neg hA, if_neg]
      rintro ⟨h1, _, h3⟩
      obtain ⟨a1, a2, a3⟩ := h1 h (by simp)
      exact hA ⟨by rw [a1, h3 h (by simp)]; rfl, a2, a3⟩
theorem fold_f (f : RQ → ByteArray) (key : List UInt8) (hf : ∀ S x v, f (updR S x v) = if x.data.toList = key then v else f S) : ∀ (F : List Hn) (S : SR), (valsM F key).length ≤ 1 →
    f (F.foldl (fun S h => stR S h.1.1 h.1.2) S).1 = (valsM F key).head?.getD (f S.1)
  | [], S, _ => rfl
  | h :: t, S, hl => by
    rw [List.foldl_cons]
    rw [vals_cons] at hl ⊢
    by_cases e : nmL h = key
    · rw [if_pos e] at hl ⊢
      have h0 : valsM t key = [] := List.length_eq_zero_iff.1 (by simp at hl; simpa using hl)
      rw [fold_f f key hf t _ (by rw [h0]; simp), h0]
      show f (updR S.1 h.1.1 h.1.2) = _
      rw [hf, if_pos (show h.1.1.data.toList = key from e)]
      rfl
    · rw [if_neg e] at hl ⊢
      rw [fold_f f key hf t _ hl]
      show (valsM t key).head?.getD (f (updR S.1 h.1.1 h.1.2)) = _
      rw [hf, if_neg (show ¬ h.1.1.data.toList = key from e)]
theorem upd_fm (S : RQ) (x v : ByteArray) : (updR S x v).m = if x.data.toList = mL then v else S.m := by
  unfold updR
  by_cases h1 : x.data.toList = mL
  · rw [if_pos h1, if_pos h1]
  · rw [if_neg h1, if_neg h1]
    split <;> try rfl
    split <;> try rfl
    split <;> rfl
theorem upd_fs (S : RQ) (x v : ByteArray) : (updR S x v).s = if x.data.toList = sL then v else S.s := by
  unfold updR
  by_cases h1 : x.data.toList = mL
  · rw [if_pos h1, if_neg (by rw [h1]; decide)]
  · rw [if_neg h1]
    by_cases h2 : x.data.toList = sL
    · rw [if_pos h2, if_pos h2]
    · rw [if_neg h2, if_neg h2]
      split <;> try rfl
      split <;> rfl
theorem upd_fa (S : RQ) (x v : ByteArray) : (updR S x v).a = if x.data.toList = aL then v else S.a := by
  unfold updR
  by_cases h1 : x.data.toList = mL
  · rw [if_pos h1, if_neg (by rw [h1]; decide)]
  · rw [if_neg h1]
    by_cases h2 : x.data.toList = sL
    · rw [if_pos h2, if_neg (by rw [h2]; decide)]
    · rw [if_neg h2]
      by_cases h3 : x.data.toList = aL
      · rw [if_pos h3, if_pos h3]
      · rw [if_neg h3, if_neg h3]
        split <;> rfl
theorem upd_fp (S : RQ) (x v : ByteArray) : (updR S x v).p = if x.data.toList = pL then v else S.p := by
  unfold updR
  by_cases h1 : x.data.toList = mL
  · rw [if_pos h1, if_neg (by rw [h1]; decide)]
  · rw [if_neg h1]
    by_cases h2 : x.data.toList = sL
    · rw [if_pos h2, if_neg (by rw [h2]; decide)]
    · rw [if_neg h2]
      by_cases h3 : x.data.toList = aL
      · rw [if_pos h3, if_neg (by rw [h3]; decide)]
      · rw [if_neg h3]
        split <;> rfl
/-- The document's reading. -/
def dokF (F : List Hn) : Bool := F.all fun h => markB h.1.1 && decide ((valsM F (nmL h)).length ≤ 1) && valueB h.1.2
def reqF (F : List Hn) : RQ := ⟨firstM F mL, firstM F sL, firstM F aL, firstM F pL⟩
def dfine (F R : List Hn) : Bool := dokF F && (fullB (firstM F mL) && (fullB (firstM F sL) && (fullB (firstM F pL) && pathB (firstM F pL) && trailB R)))
def dopen (L : List Hn) : Option (RQ × List Hn) := if dfine (L.takeWhile colB) (L.dropWhile colB) = true then some (reqF (L.takeWhile colB), L.dropWhile colB) else none
theorem open_dopen (L : List Hn) : openR L = dopen L := by
  unfold openR dopen
  rw [takeR_front, takeF_eq]
  generalize L.takeWhile colB = F
  generalize L.dropWhile colB = R
  by_cases hC : GoodF F ∧ (F.map nmL).Nodup ∧ (∀ h ∈ F, seenB [] h.1.1 = false)
  · rw [if_pos hC]
    obtain ⟨hg, hn, _⟩ := hC
    have e1 := fold_f (·.m) mL upd_fm F (q0, []) (nodup_len hn _)
    have e2 := fold_f (·.s) sL upd_fs F (q0, []) (nodup_len hn _)
    have e3 := fold_f (·.a) aL upd_fa F (q0, []) (nodup_len hn _)
    have e4 := fold_f (·.p) pL upd_fp F (q0, []) (nodup_len hn _)
    simp only [Option.map_some]
    generalize F.foldl (fun S h => stR S h.1.1 h.1.2) (q0, []) = S at e1 e2 e3 e4
    have eq : S.1 = reqF F := by
      cases hS : S.1
      rw [hS] at e1 e2 e3 e4
      simp only at e1 e2 e3 e4
      unfold reqF firstM
      rw [e1, e2, e3, e4]
      rfl
    rw [eq]
    refine ite_iff ?_
    unfold dfine
    simp only [Bool.and_eq_true]
    have hok : dokF F = true := by
      unfold dokF
      rw [List.all_eq_true]
      intro x hx
      obtain ⟨a1, a2, _⟩ := hg x hx
      rw [a1, a2, decide_eq_true ((nodup_vals F).1 hn x hx)]
      rfl
    constructor
    · rintro ⟨h1, h2, h3, h4⟩
      refine ⟨hok, h2, h3, ⟨h4, ?_⟩, h1⟩
      obtain ⟨y, hy, ey, ev⟩ := first_full (show fullB (firstM F pL) = true from h4)
      have := (hg y hy).2.2
      unfold okR at this
      rw [if_neg (by rw [show y.1.1.data.toList = pL from ey]; decide), if_pos (show y.1.1.data.toList = pL from ey), ev] at this
      exact this
    · rintro ⟨_, h2, h3, ⟨h4, _⟩, h1⟩
      exact ⟨h1, h2, h3, h4⟩
  · rw [if_neg hC, if_neg]
    · rfl
    · intro hd
      unfold dfine at hd
      simp only [Bool.and_eq_true] at hd
      obtain ⟨hok, h2, h3, ⟨h4, h5⟩, _⟩ := hd
      unfold dokF at hok
      rw [List.all_eq_true] at hok
      have hok' : ∀ x ∈ F, markB x.1.1 = true ∧ (valsM F (nmL x)).length ≤ 1 ∧ valueB x.1.2 = true := fun x hx => by
        have := hok x hx
        simp only [Bool.and_eq_true, decide_eq_true_eq] at this
        exact ⟨this.1.1, this.1.2, this.2⟩
      have hn : (F.map nmL).Nodup := (nodup_vals F).2 fun x hx => (hok' x hx).2.1
      refine hC ⟨fun x hx => ⟨(hok' x hx).1, (hok' x hx).2.2, ?_⟩, hn, fun x hx => rfl⟩
      have hf := first_is hn hx
      unfold okR
      by_cases c1 : x.1.1.data.toList = mL ∨ x.1.1.data.toList = sL
      · rw [if_pos c1]
        rcases c1 with c1 | c1
        · rw [show nmL x = mL from c1] at hf
          rw [← hf]; exact h2
        · rw [show nmL x = sL from c1] at hf
          rw [← hf]; exact h3
      · rw [if_neg c1]
        by_cases c2 : x.1.1.data.toList = pL
        · rw [if_pos c2]
          rw [show nmL x = pL from c2] at hf
          rw [← hf]; exact h5
        · rw [if_neg c2]
end Go.Proofs.YtgoglfahlfkbiaaDoor

namespace Go.Proofs.YtgoglfahlfkbiaaDoor
open Go.RowKit Tt

theorem get_data (s : ByteArray) {i : Nat} (h : i < s.size) (h' : i < s.data.toList.length) : s.data.toList[i] = s[i] := by simp [ByteArray.getElem_eq_getElem_data]
theorem none_of {s : ByteArray} {p : UInt8 → Bool} (h : ∀ i (h : i < s.size), p s[i] = false) : s.data.toList.any p = false := by
  rw [List.any_eq_false]
  intro x hx
  obtain ⟨i, hi, rfl⟩ := List.mem_iff_getElem.1 hx
  have hi' : i < s.size := by simpa using hi
  have := h i hi'
  rw [get_data s hi']
  simp [this]
theorem some_of {s : ByteArray} {p : UInt8 → Bool} {k : Nat} (hk : k < s.size) (h : p s[k] = true) : s.data.toList.any p = true := by
  rw [List.any_eq_true]
  exact ⟨s[k], by rw [← get_data s hk (by simpa using hk)]; exact List.getElem_mem _, h⟩
def hasB (s : ByteArray) (c : UInt8) : Bool := s.data.toList.any fun x => decide (x = c)
set_option maxHeartbeats 1000000 in
theorem within_any (s : ByteArray) (c : UInt8) (w : World) (hs : s.size ≤ 140737488355328) : Calls Tryd.prog 43 #[.string s, .int .u8 (c.toNat : Int)] w fun e w' => e = .returned (.bool (hasB s c)) ∧ w = w' := by
  go_enter Tryd.func43, Tryd.ntmps43
  go_wp2_with fail
  go_loop [5] (fun s5 => ∃ k : Nat, s5 = .int .i64 (k : Int) ∧ k ≤ s.size ∧ Hid (∀ i (h : i < s.size), i < k → decide (s[i] = c) = false)) (fun s5 => s.size - (intOf s5).toNat)
  case atStart => exact ⟨0, rfl, Nat.zero_le _, Lib.hid fun i _ h => by omega⟩
  case round =>
    obtain ⟨k, rfl, hk, HA⟩ := hrel
    by_cases hlt : k < s.size
    · by_cases hc : s[k] = c
      · have HF : Hid (hasB s c = true) := Lib.hid (some_of (p := fun x => decide (x = c)) hlt (decide_eq_true hc))
        have hb : (((s[k]).toNat : Int) == (c.toNat : Int)) = true := by rw [hc]; simp
        clear hc
        go_wp2_with fail
        go_ret
        exact ⟨by rw [HF.out]; rfl, rfl⟩
      · have hb : (((s[k]).toNat : Int) == (c.toNat : Int)) = false := by
          rw [beq_eq_false_iff_ne]
          intro e
          exact hc (UInt8.toNat_inj.1 (by omega))
        have HC := Lib.hid hc
        clear hc
        go_wp2_with fail
        go_round
        case rel => exact ⟨k + 1, by go_num, by omega, Lib.hid fun i hi h => by
          by_cases hik : i < k
          · exact HA.out i hi hik
          · obtain rfl : i = k := by omega
            exact decide_eq_false HC.out⟩
        case measure => simp [intOf]; omega
    · obtain rfl : k = s.size := by omega
      have HF : Hid (hasB s c = false) := Lib.hid (none_of (p := fun x => decide (x = c)) fun i h => HA.out i h h)
      go_wp2_with fail
      go_ret
      exact ⟨by rw [HF.out]; rfl, rfl⟩
theorem sign_eq (c : UInt8) : hasB signsA c = signsA.data.toList.contains c := by
  rw [Bool.eq_iff_iff, List.contains_iff_mem]
  unfold hasB
  rw [List.any_eq_true]
  constructor
  · rintro ⟨x, hx, e⟩
    exact (of_decide_eq_true e) ▸ hx
  · intro h
    exact ⟨c, h, decide_eq_true rfl⟩
/-- How a name's byte is looked at. -/
theorem named_cases (c : UInt8) :
    ((decide ((97 : Int) ≤ (c.toNat : Int)) = true ∧ decide ((c.toNat : Int) ≤ 122) = true ∧ namedB c = true) ∨
     (decide ((97 : Int) ≤ (c.toNat : Int)) = false ∧ decide ((48 : Int) ≤ (c.toNat : Int)) = true ∧ decide ((c.toNat : Int) ≤ 57) = true ∧ namedB c = true)) ∨
    (((decide ((97 : Int) ≤ (c.toNat : Int)) = false ∧ decide ((48 : Int) ≤ (c.toNat : Int)) = false) ∨
      (decide ((97 : Int) ≤ (c.toNat : Int)) = false ∧ decide ((48 : Int) ≤ (c.toNat : Int)) = true ∧ decide ((c.toNat : Int) ≤ 57) = false) ∨
      (decide ((97 : Int) ≤ (c.toNat : Int)) = true ∧ decide ((c.toNat : Int) ≤ 122) = false ∧ decide ((48 : Int) ≤ (c.toNat : Int)) = true ∧ decide ((c.toNat : Int) ≤ 57) = false)) ∧ namedB c = signsA.data.toList.contains c) := by
  have key : namedB c = (decide (97 ≤ c.toNat ∧ c.toNat ≤ 122) || (decide (48 ≤ c.toNat ∧ c.toNat ≤ 57) || signsA.data.toList.contains c)) := rfl
  generalize signsA.data.toList.contains c = d at key ⊢
  generalize namedB c = r at key ⊢
  generalize c.toNat = x at key ⊢
  by_cases h1 : 97 ≤ x ∧ x ≤ 122
  · refine .inl (.inl ⟨decide_eq_true (by omega), decide_eq_true (by omega), ?_⟩)
    rw [key, decide_eq_true h1]; rfl
  · by_cases h2 : 48 ≤ x ∧ x ≤ 57
    · refine .inl (.inr ⟨decide_eq_false (by omega), decide_eq_true (by omega), decide_eq_true (by omega), ?_⟩)
      rw [key, decide_eq_true h2]; simp
    · refine .inr ⟨?_, by rw [key, decide_eq_false h1, decide_eq_false h2]; rfl⟩
      by_cases h3 : 97 ≤ x
      · exact .inr (.inr ⟨decide_eq_true (by omega), decide_eq_false (by omega), decide_eq_true (by omega), decide_eq_false (by omega)⟩)
      · by_cases h4 : 48 ≤ x
        · exact .inr (.inl ⟨decide_eq_false (by omega), decide_eq_true (by omega), decide_eq_false (by omega)⟩)
        · exact .inl ⟨decide_eq_false (by omega), decide_eq_false (by omega)⟩
set_option maxRecDepth 100000 in
set_option maxHeartbeats 4000000 in
theorem dname_any (s : ByteArray) (w : World) (hs : s.size ≤ 140737488355328) : Calls Tryd.prog 24 #[.string s] w fun e w' => e = .returned (.bool (nameB s)) ∧ w = w' := by
  have hsg : signsA = ⟨#[33, 35, 36, 37, 38, 39, 42, 43, 45, 46, 94, 95, 96, 124, 126]⟩ := rfl
  go_enter Tryd.func24, Tryd.ntmps24
  go_wp2_with fail
  go_loop [3] (fun s3 => ∃ k : Nat, s3 = .int .i64 (k : Int) ∧ k ≤ s.size ∧ Hid (∀ i (h : i < s.size), i < k → namedB s[i] = true)) (fun s3 => s.size - (intOf s3).toNat)
  case atStart => exact ⟨0, rfl, Nat.zero_le _, Lib.hid fun i _ h => by omega⟩
  case round =>
    obtain ⟨k, rfl, hk, HA⟩ := hrel
    by_cases hlt : k < s.size
    · have HW := Lib.hid (fun W => within_any signsA s[k] W (by decide))
      rw [sign_eq, hsg] at HW
      have hcs := named_cases s[k]
      rw [hsg] at hcs
      rcases hcs with (⟨i0, i1, hb⟩ | ⟨i0, i1, i2, hb⟩) | ⟨hc, hb⟩
      · have HB := Lib.hid hb
        clear hb HW
        go_wp2_with fail
        go_round
        case rel => exact ⟨k + 1, by go_num, by omega, Lib.hid fun i hi h => by
          by_cases hik : i < k
          · exact HA.out i hi hik
          · obtain rfl : i = k := by omega
            exact HB.out⟩
        case measure => simp [intOf]; omega
      · have HB := Lib.hid hb
        clear hb HW
        go_wp2_with fail
        go_round
        case rel => exact ⟨k + 1, by go_num, by omega, Lib.hid fun i hi h => by
          by_cases hik : i < k
          · exact HA.out i hi hik
          · obtain rfl : i = k := by omega
            exact HB.out⟩
        case measure => simp [intOf]; omega
      · cases hd : namedB s[k] with
        | true =>
          have HB := Lib.hid hd
          rw [← hb, hd] at HW
          clear hb hd
          rcases hc with ⟨i0, i1⟩ | ⟨i0, i1, i2⟩ | ⟨i0, i1, i2, i3⟩
          all_goals
            go_wp2_with fail
            refine (HW.out _).mono ?_
            rintro e w' ⟨rfl, rfl⟩
            go_wp2_with fail
            go_round
            case rel => exact ⟨k + 1, by go_num, by omega, Lib.hid fun i hi h => by
              by_cases hik : i < k
              · exact HA.out i hi hik
              · obtain rfl : i = k := by omega
                exact HB.out⟩
            case measure => simp [intOf]; omega
        | false =>
          have HF : Hid (nameB s = false) := Lib.hid (by unfold nameB; rw [not_all hlt hd]; rfl)
          rw [← hb, hd] at HW
          clear hb hd
          rcases hc with ⟨i0, i1⟩ | ⟨i0, i1, i2⟩ | ⟨i0, i1, i2, i3⟩
          all_goals
            go_wp2_with fail
            refine (HW.out _).mono ?_
            rintro e w' ⟨rfl, rfl⟩
            go_wp2_with fail
            go_ret
            exact ⟨by rw [HF.out]; rfl, rfl⟩
    · obtain rfl : k = s.size := by omega
      have HF : Hid (nameB s = decide (0 < s.size)) := Lib.hid (by
        unfold nameB
        rw [all_of HA.out (Nat.le_refl _), Bool.true_and, Lib.toList_data]
        obtain ⟨⟨l⟩⟩ := s
        cases l <;> simp [ByteArray.size])
      go_wp2_with fail
      all_goals go_ret
      all_goals exact ⟨by rw [HF.out]; simp, rfl⟩
end Go.Proofs.YtgoglfahlfkbiaaDoor

namespace Go.Proofs.YtgoglfahlfkbiaaDoor
open Go.RowKit Tt

theorem brk_eq (c : UInt8) : brkL.contains c = (((c.toNat : Int) == 0) || ((c.toNat : Int) == 10) || ((c.toNat : Int) == 13)) := by
  rw [Bool.eq_iff_iff]
  simp only [Bool.or_eq_true, beq_iff_eq, List.contains_iff_mem]
  unfold brkL
  simp only [List.mem_cons, List.not_mem_nil, or_false]
  constructor
  · rintro (h | h | h) <;> subst h <;> decide
  · rintro ((h | h) | h)
    · exact .inl (UInt8.toNat_inj.1 (by simpa using (by omega : c.toNat = 0)))
    · exact .inr (.inl (UInt8.toNat_inj.1 (by simpa using (by omega : c.toNat = 10))))
    · exact .inr (.inr (UInt8.toNat_inj.1 (by simpa using (by omega : c.toNat = 13))))
theorem blank_eq (c : UInt8) : blankB c = (((c.toNat : Int) == 32) || ((c.toNat : Int) == 9)) := by
  unfold blankB
  rw [Bool.eq_iff_iff]
  simp only [Bool.or_eq_true, beq_iff_eq, List.contains_iff_mem, List.mem_cons, List.not_mem_nil, or_false]
  constructor
  · rintro (h | h) <;> subst h <;> decide
  · rintro (h | h)
    · exact .inl (UInt8.toNat_inj.1 (by simpa using (by omega : c.toNat = 32)))
    · exact .inr (UInt8.toNat_inj.1 (by simpa using (by omega : c.toNat = 9)))
theorem edge_eq (s : ByteArray) (h : 0 < s.size) : edgeB s.data.toList = (((s[0].toNat : Int) != 32) && ((s[0].toNat : Int) != 9) && ((s[s.size - 1].toNat : Int) != 32) && ((s[s.size - 1].toNat : Int) != 9)) := by
  have hl : s.data.toList.length = s.size := by simp
  have e0 : s.data.toList.head? = some s[0] := by
    rw [List.head?_eq_getElem?, List.getElem?_eq_getElem (by omega), get_data s h]
  have e1 : s.data.toList.getLast? = some s[s.size - 1] := by
    rw [List.getLast?_eq_getElem?, List.getElem?_eq_getElem (by omega)]
    exact congrArg some (by simp [ByteArray.getElem_eq_getElem_data])
  unfold edgeB
  rw [e0, e1]
  simp only [Option.any_some, blank_eq, bne]
  cases (s[0].toNat : Int) == 32 <;> cases (s[0].toNat : Int) == 9 <;> cases (s[s.size - 1].toNat : Int) == 32 <;> cases (s[s.size - 1].toNat : Int) == 9 <;> rfl
set_option maxRecDepth 100000 in
set_option maxHeartbeats 4000000 in
theorem dvalue_any (s : ByteArray) (w : World) (hs : s.size ≤ 140737488355328) : Calls Tryd.prog 26 #[.string s] w fun e w' => e = .returned (.bool (valueB s)) ∧ Below w.heap.size w w' := by
  go_enter Tryd.func26, Tryd.ntmps26
  go_wp2_with fail
  go_loop [3] (fun s3 => ∃ k : Nat, s3 = .int .i64 (k : Int) ∧ k ≤ s.size ∧ Hid (∀ i (h : i < s.size), i < k → brkL.contains s[i] = false)) (fun s3 => s.size - (intOf s3).toNat)
  case atStart => exact ⟨0, rfl, Nat.zero_le _, Lib.hid fun i _ h => by omega⟩
  case round =>
    obtain ⟨k, rfl, hk, HA⟩ := hrel
    by_cases hlt : k < s.size
    · have hbk := brk_eq s[k]
      cases hd : brkL.contains s[k] with
      | true =>
        have HF : Hid (valueB s = false) := Lib.hid (by unfold valueB; rw [any_yes hlt hd]; rfl)
        rw [hd] at hbk
        clear hd
        cases b0 : ((s[k]).toNat : Int) == 0 with
        | true =>
          clear hbk
          go_wp2_with fail
          go_ret
          exact ⟨by rw [HF.out]; rfl, Below.refl _ _⟩
        | false =>
        cases b1 : ((s[k]).toNat : Int) == 10 with
        | true =>
          clear hbk
          go_wp2_with fail
          go_ret
          exact ⟨by rw [HF.out]; rfl, Below.refl _ _⟩
        | false =>
          rw [b0, b1] at hbk
          have b2 : (((s[k]).toNat : Int) == 13) = true := hbk.symm
          clear hbk
          go_wp2_with fail
          go_ret
          exact ⟨by rw [HF.out]; rfl, Below.refl _ _⟩
      | false =>
        have HB := Lib.hid hd
        rw [hd] at hbk
        have hb3 := hbk.symm
        simp only [Bool.or_eq_false_iff] at hb3
        obtain ⟨⟨b0, b1⟩, b2⟩ := hb3
        clear hbk hd
        go_wp2_with fail
        go_round
        case rel => exact ⟨k + 1, by go_num, by omega, Lib.hid fun i hi h => by
          by_cases hik : i < k
          · exact HA.out i hi hik
          · obtain rfl : i = k := by omega
            exact HB.out⟩
        case measure => simp [intOf]; omega
    · obtain rfl : k = s.size := by omega
      have HF : Hid (valueB s = edgeB s.data.toList) := Lib.hid (by unfold valueB; rw [any_no (fun j hj => HA.out j hj hj)]; rfl)
      by_cases h0 : s.size = 0
      · have h0b : ((s.size : Int) == 0) = true := by rw [h0]; rfl
        have hE : edgeB s.data.toList = true := by
          obtain ⟨⟨l⟩⟩ := s
          cases l with
          | nil => rfl
          | cons c l => simp [ByteArray.size] at h0
        rw [hE] at HF
        go_wp2_with fail
        all_goals go_ret
        all_goals exact ⟨by rw [HF.out]; rfl, Below.refl _ _⟩
      · have h0b : ((s.size : Int) == 0) = false := by rw [beq_eq_false_iff_ne]; omega
        have hp : (0 : Int) < (s.size : Int) := by omega
        have hp' : (0 : Int) ≤ (s.size : Int) - 1 := by omega
        have hp2 : (s.size : Int) - 1 < (s.size : Int) := by omega
        have hwr : IntKind.i64.wrap ((s.size : Int) - 1) = (s.size : Int) - 1 := by rw [IntKind.wrap_i64]; omega
        go_wp2_with fail
        all_goals go_ret
        all_goals exact ⟨by rw [HF.out, edge_eq s (by omega)]; simp_all, Below.refl _ _⟩
set_option maxRecDepth 100000 in
set_option maxHeartbeats 2000000 in
theorem dplain_any (h : Hd) (v : Bool) (w : World) (h1 : h.1.size ≤ 140737488355328) (h2 : h.2.size ≤ 140737488355328) : Calls Tryd.prog 48 #[hdN h v] w fun e w' => e = .returned (.bool (plainB h)) ∧ Below w.heap.size w w' := by
  obtain ⟨a, b⟩ := h
  simp only at h1 h2
  have hb0 : Below w.heap.size w (w.alloc (.cells #[.string a, .string b, .bool v] 54)) := (Below.refl _ w).alloc (Nat.le_refl _) _
  have k0 : (w.alloc (.cells #[.string a, .string b, .bool v] 54)).cell? ⟨w.heap.size, 0, none⟩ = some (.string a) := by simp
  have k1 : (w.alloc (.cells #[.string a, .string b, .bool v] 54)).cell? ⟨w.heap.size, 1, none⟩ = some (.string b) := by simp
  have hz0 : (w.alloc (.cells #[.string a, .string b, .bool v] 54)).heap.size = w.heap.size + 1 := by simp
  have HN := Lib.hid (fun W => dname_any a W (by omega))
  have HV := Lib.hid (fun W => dvalue_any b W h2)
  have HR : Hid (plainB (a, b) = (nameB a && (valueB b && restB (a, b)))) := Lib.hid rfl
  generalize nameB a = na at HN HR
  generalize valueB b = vb at HV HR
  cases na with
  | false =>
    go_enter Tryd.func48, Tryd.ntmps48
    go_wp2_with fail
    refine (HN.out _).mono ?_
    rintro e w' ⟨rfl, rfl⟩
    go_wp2_with fail
    go_ret
    exact ⟨by rw [HR.out]; rfl, hb0⟩
  | true =>
    have hEnd : ∀ r, restB (a, b) = r → ∀ W, Below (w.alloc (.cells #[.string a, .string b, .bool v] 54)).heap.size (w.alloc (.cells #[.string a, .string b, .bool v] 54)) W → Below w.heap.size w W := fun _ _ W h => hb0.trans (h.mono (by simp))
    have HEN := Lib.hid hEnd
    clear hEnd
    cases vb with
    | false =>
      go_enter Tryd.func48, Tryd.ntmps48
      go_wp2_with fail
      refine (HN.out _).mono ?_
      rintro e w' ⟨rfl, rfl⟩
      go_wp2_with fail
      refine (HV.out _).mono ?_
      rintro e w' ⟨rfl, hb1⟩
      go_wp2_with fail
      go_ret
      exact ⟨by rw [HR.out]; rfl, hb0.trans (hb1.mono (by simp))⟩
    | true =>
      have hcase : (a = bn0 ∨ a = bn1 ∨ a = bn2 ∨ a = bn3 ∨ a = bn4) ∨ ((¬ a = bn0 ∧ ¬ a = bn1 ∧ ¬ a = bn2 ∧ ¬ a = bn3 ∧ ¬ a = bn4) ∧ a = teA) ∨ ((¬ a = bn0 ∧ ¬ a = bn1 ∧ ¬ a = bn2 ∧ ¬ a = bn3 ∧ ¬ a = bn4) ∧ ¬ a = teA) := by
        by_cases q0 : a = bn0 ∨ a = bn1 ∨ a = bn2 ∨ a = bn3 ∨ a = bn4
        · exact Or.inl q0
        · have : ¬ a = bn0 ∧ ¬ a = bn1 ∧ ¬ a = bn2 ∧ ¬ a = bn3 ∧ ¬ a = bn4 := ⟨fun h => q0 (Or.inl h), fun h => q0 (Or.inr (Or.inl h)), fun h => q0 (Or.inr (Or.inr (Or.inl h))), fun h => q0 (Or.inr (Or.inr (Or.inr (Or.inl h)))), fun h => q0 (Or.inr (Or.inr (Or.inr (Or.inr h))))⟩
          by_cases q1 : a = teA
          · exact Or.inr (Or.inl ⟨this, q1⟩)
          · exact Or.inr (Or.inr ⟨this, q1⟩)
      rcases hcase with hq | ⟨hq, hq'⟩ | ⟨hq, hq'⟩
      · rcases hq with hq | hq | hq | hq | hq
        · replace hq : a = ⟨#[99, 111, 110, 110, 101, 99, 116, 105, 111, 110]⟩ := hq
          subst hq
          have HF : Hid (restB (⟨#[99, 111, 110, 110, 101, 99, 116, 105, 111, 110]⟩, b) = false) := Lib.hid (by unfold restB; exact if_pos (Or.inl rfl))
          go_enter Tryd.func48, Tryd.ntmps48
          go_wp2_with fail
          refine (HN.out _).mono ?_
          rintro e w' ⟨rfl, rfl⟩
          go_wp2_with fail
          refine (HV.out _).mono ?_
          rintro e w2 ⟨rfl, hb1⟩
          have hB := Lib.hid (hb0.trans (hb1.mono (by simp)))
          have k0' := (hb1.cell (p := ⟨w.heap.size, 0, none⟩) (by simp)).trans k0
          have k1' := (hb1.cell (p := ⟨w.heap.size, 1, none⟩) (by simp)).trans k1
          clear k0 k1 hb1
          go_wp2_with fail
          go_ret
          exact ⟨by rw [HR.out, HF.out]; rfl, hB.out⟩
        · replace hq : a = ⟨#[112, 114, 111, 120, 121, 45, 99, 111, 110, 110, 101, 99, 116, 105, 111, 110]⟩ := hq
          subst hq
          have HF : Hid (restB (⟨#[112, 114, 111, 120, 121, 45, 99, 111, 110, 110, 101, 99, 116, 105, 111, 110]⟩, b) = false) := Lib.hid (by unfold restB; exact if_pos (Or.inr (Or.inl rfl)))
          go_enter Tryd.func48, Tryd.ntmps48
          go_wp2_with fail
          refine (HN.out _).mono ?_
          rintro e w' ⟨rfl, rfl⟩
          go_wp2_with fail
          refine (HV.out _).mono ?_
          rintro e w2 ⟨rfl, hb1⟩
          have hB := Lib.hid (hb0.trans (hb1.mono (by simp)))
          have k0' := (hb1.cell (p := ⟨w.heap.size, 0, none⟩) (by simp)).trans k0
          have k1' := (hb1.cell (p := ⟨w.heap.size, 1, none⟩) (by simp)).trans k1
          clear k0 k1 hb1
          go_wp2_with fail
          go_ret
          exact ⟨by rw [HR.out, HF.out]; rfl, hB.out⟩
        · replace hq : a = ⟨#[107, 101, 101, 112, 45, 97, 108, 105, 118, 101]⟩ := hq
          subst hq
          have HF : Hid (restB (⟨#[107, 101, 101, 112, 45, 97, 108, 105, 118, 101]⟩, b) = false) := Lib.hid (by unfold restB; exact if_pos (Or.inr (Or.inr (Or.inl rfl))))
          go_enter Tryd.func48, Tryd.ntmps48
          go_wp2_with fail
          refine (HN.out _).mono ?_
          rintro e w' ⟨rfl, rfl⟩
          go_wp2_with fail
          refine (HV.out _).mono ?_
          rintro e w2 ⟨rfl, hb1⟩
          have hB := Lib.hid (hb0.trans (hb1.mono (by simp)))
          have k0' := (hb1.cell (p := ⟨w.heap.size, 0, none⟩) (by simp)).trans k0
          have k1' := (hb1.cell (p := ⟨w.heap.size, 1, none⟩) (by simp)).trans k1
          clear k0 k1 hb1
          go_wp2_with fail
          go_ret
          exact ⟨by rw [HR.out, HF.out]; rfl, hB.out⟩
        · replace hq : a = ⟨#[116, 114, 97, 110, 115, 102, 101, 114, 45, 101, 110, 99, 111, 100, 105, 110, 103]⟩ := hq
          subst hq
          have HF : Hid (restB (⟨#[116, 114, 97, 110, 115, 102, 101, 114, 45, 101, 110, 99, 111, 100, 105, 110, 103]⟩, b) = false) := Lib.hid (by unfold restB; exact if_pos (Or.inr (Or.inr (Or.inr (Or.inl rfl)))))
          go_enter Tryd.func48, Tryd.ntmps48
          go_wp2_with fail
          refine (HN.out _).mono ?_
          rintro e w' ⟨rfl, rfl⟩
          go_wp2_with fail
          refine (HV.out _).mono ?_
          rintro e w2 ⟨rfl, hb1⟩
          have hB := Lib.hid (hb0.trans (hb1.mono (by simp)))
          have k0' := (hb1.cell (p := ⟨w.heap.size, 0, none⟩) (by simp)).trans k0
          have k1' := (hb1.cell (p := ⟨w.heap.size, 1, none⟩) (by simp)).trans k1
          clear k0 k1 hb1
          go_wp2_with fail
          go_ret
          exact ⟨by rw [HR.out, HF.out]; rfl, hB.out⟩
        · replace hq : a = ⟨#[117, 112, 103, 114, 97, 100, 101]⟩ := hq
          subst hq
          have HF : Hid (restB (⟨#[117, 112, 103, 114, 97, 100, 101]⟩, b) = false) := Lib.hid (by unfold restB; exact if_pos (Or.inr (Or.inr (Or.inr (Or.inr rfl)))))
          go_enter Tryd.func48, Tryd.ntmps48
          go_wp2_with fail
          refine (HN.out _).mono ?_
          rintro e w' ⟨rfl, rfl⟩
          go_wp2_with fail
          refine (HV.out _).mono ?_
          rintro e w2 ⟨rfl, hb1⟩
          have hB := Lib.hid (hb0.trans (hb1.mono (by simp)))
          have k0' := (hb1.cell (p := ⟨w.heap.size, 0, none⟩) (by simp)).trans k0
          have k1' := (hb1.cell (p := ⟨w.heap.size, 1, none⟩) (by simp)).trans k1
          clear k0 k1 hb1
          go_wp2_with fail
          go_ret
          exact ⟨by rw [HR.out, HF.out]; rfl, hB.out⟩
      · replace hq' : a = ⟨#[116, 101]⟩ := hq'
        subst hq'
        clear hq
        by_cases ht : b = trA
        · replace ht : b = ⟨#[116, 114, 97, 105, 108, 101, 114, 115]⟩ := ht
          subst ht
          have HF : Hid (restB (⟨#[116, 101]⟩, ⟨#[116, 114, 97, 105, 108, 101, 114, 115]⟩) = true) := Lib.hid (by decide)
          go_enter Tryd.func48, Tryd.ntmps48
          go_wp2_with fail
          refine (HN.out _).mono ?_
          rintro e w' ⟨rfl, rfl⟩
          go_wp2_with fail
          refine (HV.out _).mono ?_
          rintro e w2 ⟨rfl, hb1⟩
          have hB := Lib.hid (hb0.trans (hb1.mono (by simp)))
          have k0' := (hb1.cell (p := ⟨w.heap.size, 0, none⟩) (by simp)).trans k0
          have k1' := (hb1.cell (p := ⟨w.heap.size, 1, none⟩) (by simp)).trans k1
          clear k0 k1 hb1
          go_wp2_with fail
          go_ret
          exact ⟨by rw [HR.out, HF.out]; rfl, hB.out⟩
        · have HF : Hid (restB (⟨#[116, 101]⟩, b) = false) := Lib.hid (by unfold restB; exact (if_neg te_no).trans ((if_pos rfl).trans (decide_eq_false ht)))
          have hne : ¬ b.toList = (⟨#[116, 114, 97, 105, 108, 101, 114, 115]⟩ : ByteArray).toList := nes ht
          clear ht
          go_enter Tryd.func48, Tryd.ntmps48
          go_wp2_with fail
          refine (HN.out _).mono ?_
          rintro e w' ⟨rfl, rfl⟩
          go_wp2_with fail
          refine (HV.out _).mono ?_
          rintro e w2 ⟨rfl, hb1⟩
          have hB := Lib.hid (hb0.trans (hb1.mono (by simp)))
          have k0' := (hb1.cell (p := ⟨w.heap.size, 0, none⟩) (by simp)).trans k0
          have k1' := (hb1.cell (p := ⟨w.heap.size, 1, none⟩) (by simp)).trans k1
          clear k0 k1 hb1
          go_wp2_with fail
          go_ret
          exact ⟨by rw [HR.out, HF.out]; simp_all, hB.out⟩
      · have HF : Hid (restB (a, b) = true) := Lib.hid (by unfold restB; rw [if_neg (by rintro (h | h | h | h | h) <;> simp_all), if_neg hq'])
        obtain ⟨q0, q1, q2, q3, q4⟩ := hq
        have e0 : (a.toList == [99, 111, 110, 110, 101, 99, 116, 105, 111, 110]) = false := nel q0 (by rw [Lib.toList_data]; rfl)
        have e1 : (a.toList == [112, 114, 111, 120, 121, 45, 99, 111, 110, 110, 101, 99, 116, 105, 111, 110]) = false := nel q1 (by rw [Lib.toList_data]; rfl)
        have e2 : (a.toList == [107, 101, 101, 112, 45, 97, 108, 105, 118, 101]) = false := nel q2 (by rw [Lib.toList_data]; rfl)
        have e3 : (a.toList == [116, 114, 97, 110, 115, 102, 101, 114, 45, 101, 110, 99, 111, 100, 105, 110, 103]) = false := nel q3 (by rw [Lib.toList_data]; rfl)
        have e4 : (a.toList == [117, 112, 103, 114, 97, 100, 101]) = false := nel q4 (by rw [Lib.toList_data]; rfl)
        have e5 : (a.toList == [116, 101]) = false := nel hq' (by rw [Lib.toList_data]; rfl)
        clear q0 q1 q2 q3 q4 hq'
        go_enter Tryd.func48, Tryd.ntmps48
        go_wp2_with fail
        refine (HN.out _).mono ?_
        rintro e w' ⟨rfl, rfl⟩
        go_wp2_with fail
        refine (HV.out _).mono ?_
        rintro e w2 ⟨rfl, hb1⟩
        have hB := Lib.hid (hb0.trans (hb1.mono (by simp)))
        have k0' := (hb1.cell (p := ⟨w.heap.size, 0, none⟩) (by simp)).trans k0
        have k1' := (hb1.cell (p := ⟨w.heap.size, 1, none⟩) (by simp)).trans k1
        clear k0 k1 hb1
        go_wp2_with fail
        go_ret
        exact ⟨by rw [HR.out, HF.out]; rfl, hB.out⟩

end Go.Proofs.YtgoglfahlfkbiaaDoor

namespace Go.Proofs.YtgoglfahlfkbiaaDoor
open Go.RowKit Tt

/-- The document's number of the fault. -/
def hdC (b : Bool) : Int := if b then 0 else 112
set_option maxRecDepth 100000 in
set_option maxHeartbeats 2000000 in
theorem dtrail_any (a : Option Addr) (n c : Nat) (L : List Hn) (w : World) (hs : Ns w a n c L) (hm : Sm L) : Calls Tryd.prog 28 #[.slice a n c] w fun e w' => e = .returned (.int .i64 (hdC (trailB L))) ∧ Below w.heap.size w w' := by
  have hmx := hs.max
  have hle := hs.le
  unfold maxLen at hmx
  have HS := Lib.hid hs
  have HL := Lib.hid hs.len
  have HM := Lib.hid hm
  clear hs hm
  go_enter Tryd.func28, Tryd.ntmps28
  go_wp2_with fail
  go_loopw [3] (fun s3 wr => ∃ k : Nat, s3 = .int .i64 (k : Int) ∧ k ≤ n ∧ Below w.heap.size w wr ∧ Hid (∀ i (h : i < L.length), i < k → plainB (L[i]).1 = true)) (fun s3 _ => n - (intOf s3).toNat)
  case atStart => exact ⟨0, rfl, Nat.zero_le _, Below.refl _ _, Lib.hid fun i _ h => by omega⟩
  case round =>
    obtain ⟨k, rfl, hk, hB, HA⟩ := hrel
    by_cases hlt : k < n
    · obtain ⟨b, o, rfl, e0, e1, e2⟩ := (HS.out.kept hB).row k (by rw [HL.out]; exact hlt)
      obtain ⟨z1, z2⟩ := HM.out k (by rw [HL.out]; exact hlt)
      have HG : Hid (∃ g, L[k]'(by rw [HL.out]; exact hlt) = g) := Lib.hid ⟨_, rfl⟩
      obtain ⟨g, hg⟩ := HG.out
      rw [hg] at e0 e1 e2 z1 z2
      have hia : (0 : Int) ≤ (k : Int) := by omega
      have hib : (k : Int) < (n : Int) := by omega
      have HP := Lib.hid (dplain_any g.1 g.2 wr z1 z2)
      have HGG := Lib.hid hg
      clear hg
      cases hb : plainB g.1 with
      | true =>
        rw [hb] at HP
        have HBB := Lib.hid hb
        clear hb
        go_wp2_with fail
        refine HP.out.mono ?_
        rintro e w1 ⟨rfl, hb1⟩
        go_wp2_with fail
        exact ⟨⟨k + 1, by go_num, by omega, hB.trans (hb1.mono hB.size), Lib.hid fun i hi h => by
          by_cases hik : i < k
          · exact HA.out i hi hik
          · obtain rfl : i = k := by omega
            rw [HGG.out]; exact HBB.out⟩, by simp [intOf]; omega⟩
      | false =>
        rw [hb] at HP
        have HF : Hid (trailB L = false) := Lib.hid (trail_no (k := k) (by rw [HL.out]; exact hlt) (by rw [HGG.out]; exact hb))
        clear hb
        go_wp2_with fail
        refine HP.out.mono ?_
        rintro e w1 ⟨rfl, hb1⟩
        go_wp2_with fail
        go_ret
        exact ⟨by rw [HF.out]; rfl, hB.trans (hb1.mono hB.size)⟩
    · obtain rfl : k = n := by omega
      have HF : Hid (trailB L = true) := Lib.hid (trail_yes fun i hi => HA.out i hi (by rw [← HL.out]; exact hi))
      go_wp2_with fail
      go_ret
      exact ⟨by rw [HF.out]; rfl, hB⟩

set_option maxRecDepth 100000 in
theorem colon_any (h : Hd) (v : Bool) (w : World) : Calls Tryd.prog 54 #[hdN h v] w fun e w' => e = .returned (.bool (pre1 58 h.1)) ∧ Below w.heap.size w w' := by
  obtain ⟨a, b⟩ := h
  have hb0 : Below w.heap.size w (w.alloc (.cells #[.string a, .string b, .bool v] 54)) := (Below.refl _ w).alloc (Nat.le_refl _) _
  by_cases h0 : 0 < a.size
  · have hd : decide ((0 : Int) < (a.size : Int)) = true := decide_eq_true (by omega)
    have hp : (0 : Int) < (a.size : Int) := by omega
    have hv : pre1 58 a = ((a[0].toNat : Int) == 58) := by
      rw [pre_at a h0, Bool.eq_iff_iff]
      simp only [decide_eq_true_eq, beq_iff_eq]
      constructor
      · intro e; rw [e]; rfl
      · intro e; exact UInt8.toNat_inj.1 (by simpa using (by omega : a[0].toNat = 58))
    go_enter Tryd.func54, Tryd.ntmps54
    go_wp2_with fail
    all_goals go_ret
    all_goals exact ⟨by rw [hv]; rfl, hb0⟩
  · have hd : decide ((0 : Int) < (a.size : Int)) = false := decide_eq_false (by omega)
    have hv : pre1 58 a = false := by
      obtain ⟨⟨l⟩⟩ := a
      cases l with
      | nil => kernel_rfl
      | cons c l => exact absurd (by simp [ByteArray.size]) h0
    obtain rfl : a = ⟨#[]⟩ := by
      obtain ⟨⟨l⟩⟩ := a
      cases l with
      | nil => rfl
      | cons c l => exact absurd (by simp [ByteArray.size]) h0
    clear h0 hd
    go_enter Tryd.func54, Tryd.ntmps54
    go_wp2_with fail
    go_ret
    exact ⟨by rw [hv]; rfl, hb0⟩
end Go.Proofs.YtgoglfahlfkbiaaDoor

namespace Go.Proofs.YtgoglfahlfkbiaaDoor
open Go.RowKit Tt

/-- How many headers with a colon stand ahead. -/
def frontN (L : List Hn) : Nat := (L.takeWhile colB).length
theorem front_at : ∀ (L : List Hn) (k : Nat), k ≤ L.length → (∀ i (h : i < L.length), i < k → colB L[i] = true) → (∀ h : k < L.length, colB L[k] = false) → frontN L = k
  | [], k, hk, _, _ => by simp at hk; subst hk; rfl
  | x :: t, 0, _, _, h2 => by
    have := h2 (by simp)
    simp only [List.getElem_cons_zero] at this
    unfold frontN
    rw [List.takeWhile_cons_of_neg (by rw [this]; simp)]
    rfl
  | x :: t, k + 1, hk, h1, h2 => by
    have h0 := h1 0 (by simp) (by omega)
    simp only [List.getElem_cons_zero] at h0
    have ih := front_at t k (by simpa using hk) (fun i hi hik => by
      have := h1 (i + 1) (by simpa using hi) (by omega)
      simpa using this) (fun h => by
      have := h2 (by simpa using h)
      simpa using this)
    unfold frontN at ih ⊢
    rw [List.takeWhile_cons_of_pos h0, List.length_cons, ih]
theorem take_app (F D : List Hn) : (F ++ D).take F.length = F := by simp
theorem drop_app (F D : List Hn) : (F ++ D).drop F.length = D := by simp
theorem front_take (L : List Hn) : L.take (frontN L) = L.takeWhile colB ∧ L.drop (frontN L) = L.dropWhile colB ∧ frontN L ≤ L.length := by
  have h := List.takeWhile_append_dropWhile (p := colB) (l := L)
  unfold frontN
  refine ⟨?_, ?_, ?_⟩
  · exact (congrArg (List.take (L.takeWhile colB).length) h.symm).trans (take_app _ _)
  · exact (congrArg (List.drop (L.takeWhile colB).length) h.symm).trans (drop_app _ _)
  · have := congrArg List.length h
    rw [List.length_append] at this
    omega
set_option maxRecDepth 100000 in
set_option maxHeartbeats 2000000 in
theorem front_any (a : Option Addr) (n c : Nat) (L : List Hn) (w : World) (hs : Ns w a n c L) : Calls Tryd.prog 36 #[.slice a n c] w fun e w' => e = .returned (.int .i64 (frontN L : Int)) ∧ Below w.heap.size w w' := by
  have hmx := hs.max
  have hle := hs.le
  unfold maxLen at hmx
  have HS := Lib.hid hs
  have HL := Lib.hid hs.len
  clear hs
  go_enter Tryd.func36, Tryd.ntmps36
  go_wp2_with fail
  go_loopw [3] (fun s3 wr => ∃ k : Nat, s3 = .int .i64 (k : Int) ∧ k ≤ n ∧ Below w.heap.size w wr ∧ Hid (∀ i (h : i < L.length), i < k → colB L[i] = true)) (fun s3 _ => n - (intOf s3).toNat)
  case atStart => exact ⟨0, rfl, Nat.zero_le _, Below.refl _ _, Lib.hid fun i _ h => by omega⟩
  case round =>
    obtain ⟨k, rfl, hk, hB, HA⟩ := hrel
    by_cases hlt : k < n
    · obtain ⟨b, o, rfl, e0, e1, e2⟩ := (HS.out.kept hB).row k (by rw [HL.out]; exact hlt)
      have HG : Hid (∃ g, L[k]'(by rw [HL.out]; exact hlt) = g) := Lib.hid ⟨_, rfl⟩
      obtain ⟨g, hg⟩ := HG.out
      rw [hg] at e0 e1 e2
      have hia : (0 : Int) ≤ (k : Int) := by omega
      have hib : (k : Int) < (n : Int) := by omega
      have HP := Lib.hid (colon_any g.1 g.2 wr)
      have HGG := Lib.hid hg
      clear hg
      cases hb : pre1 58 g.1.1 with
      | true =>
        rw [hb] at HP
        have HBB := Lib.hid hb
        clear hb
        go_wp2_with fail
        refine HP.out.mono ?_
        rintro e w1 ⟨rfl, hb1⟩
        go_wp2_with fail
        exact ⟨⟨k + 1, by go_num, by omega, hB.trans (hb1.mono hB.size), Lib.hid fun i hi h => by
          by_cases hik : i < k
          · exact HA.out i hi hik
          · obtain rfl : i = k := by omega
            rw [HGG.out]; exact HBB.out⟩, by simp [intOf]; omega⟩
      | false =>
        rw [hb] at HP
        have HF : Hid (frontN L = k) := Lib.hid (front_at L k (by rw [HL.out]; omega) HA.out (fun h => by rw [HGG.out]; exact hb))
        clear hb
        go_wp2_with fail
        refine HP.out.mono ?_
        rintro e w1 ⟨rfl, hb1⟩
        go_wp2_with fail
        go_ret
        exact ⟨by rw [HF.out]; rfl, hB.trans (hb1.mono hB.size)⟩
    · obtain rfl : k = n := by omega
      have HF : Hid (frontN L = k) := Lib.hid (front_at L k (by rw [HL.out]; exact Nat.le_refl _) HA.out (fun h => absurd h (by rw [HL.out]; omega)))
      go_wp2_with fail
      go_ret
      exact ⟨by rw [HF.out]; rfl, hB⟩

def DalRel (n : Nat) (L : List Hn) (x : ByteArray) (w : World) (s5 s10 : Value) (wr : World) : Prop := ∃ (k N c : Nat) (ad : Option Addr), s10 = .int .i64 (k : Int) ∧ s5 = .slice ad N c ∧ Hid (N = (allM (L.take k) x).length) ∧ k ≤ n ∧ TOwn wr w.heap.size (.slice ad N c) (allM (L.take k) x) ∧ Below w.heap.size w wr
set_option maxRecDepth 100000 in
set_option maxHeartbeats 2000000 in
theorem dall_any (a : Option Addr) (n c : Nat) (L : List Hn) (x : ByteArray) (w : World) (hs : Ns w a n c L) (hn : n ≤ 1000) : Calls Tryd.prog 20 #[.slice a n c, .string x] w (TOut w.heap.size (allM L x) w) := by
  have HS := Lib.hid hs
  have HL := Lib.hid hs.len
  clear hs
  go_enter Tryd.func20, Tryd.ntmps20
  go_wp2
  go_loopw [5, 6] (fun s5 s6 wr => DalRel n L x w s5 s6 wr) (fun _ s6 _ => n - (intOf s6).toNat)
  case atStart => exact ⟨0, 0, _, _, rfl, rfl, Lib.hid (by simp [allM]), by omega, by simpa [allM] using TOwn.nil w w.heap.size, Below.refl _ _⟩
  case round =>
    obtain ⟨k, N, cc, ad, rfl, rfl, hN, hk, hown, hbw⟩ := hrel
    by_cases hlt : k < n
    · obtain ⟨b, o, rfl, e0, e1, e2⟩ := (HS.out.kept hbw).row k (by rw [HL.out]; exact hlt)
      have HT : Hid (L.take (k + 1) = L.take k ++ [L[k]'(by rw [HL.out]; exact hlt)]) := Lib.hid (by rw [List.take_add_one, List.getElem?_eq_getElem (by rw [HL.out]; exact hlt)]; rfl)
      generalize L[k]'(by rw [HL.out]; exact hlt) = g at e0 e1 e2 HT
      obtain ⟨⟨gn, gv⟩, gb⟩ := g
      have HA := Lib.hid (allM_snoc (L.take k) ((gn, gv), gb) x)
      simp only at HA e0 e1 e2
      have hka : (0 : Int) ≤ (k : Int) := by omega
      have hkb : (k : Int) < (n : Int) := by omega
      have hw := hbw.size
      have hl : (allM (L.take k) x).length ≤ k := Nat.le_trans (allM_len _ _) (by simp; omega)
      have HOWN := Lib.hid hown
      have HB := Lib.hid hbw
      clear hown hbw
      by_cases he : gn = x
      · have HA2 : Hid (allM (L.take (k + 1)) x = allM (L.take k) x ++ [gv]) := Lib.hid (by rw [HT.out, HA.out, if_pos he])
        clear HA HT
        subst he
        go_wp2_with (at_builtin; (refine wp_append_t rfl _ _ rfl _ (allM (L.take k) gn) [gv] rfl w.heap.size (HOWN.out.kept ((Below.refl _ _).alloc (Nat.le_refl _) _)) (some ⟨wr.heap.size, 0, none⟩) 1 1 rfl (ts_new1 _ _) (by omega) (by simp; omega) ?_); intro w3 a3 N3 c3 hN3 hown3 hb3)
        refine ⟨⟨k + 1, N3, c3, a3, by go_num, rfl, ?_, by omega, ?_, ?_⟩, by simp [intOf]; omega⟩
        · rw [HA2.out]; exact hN3
        · rw [HA2.out]; exact hown3
        · exact (HB.out.alloc hw _).trans hb3
      · have HA2 : Hid (allM (L.take (k + 1)) x = allM (L.take k) x) := Lib.hid (by rw [HT.out, HA.out, if_neg he])
        have hne := bne' he
        clear HA HT he
        go_wp2
        refine ⟨⟨k + 1, N, cc, ad, by go_num, rfl, ?_, by omega, ?_, ?_⟩, by simp [intOf]; omega⟩
        · rw [HA2.out]; exact hN
        · rw [HA2.out]; exact HOWN.out
        · exact HB.out
    · obtain rfl : k = n := by omega
      have HT : L.take k = L := List.take_of_length_le (by rw [HL.out]; exact Nat.le_refl _)
      rw [HT] at hN hown
      go_wp2
      go_ret
      exact ⟨_, _, _, rfl, hN, hown, hbw⟩

theorem allM_vals (L : List Hn) (x : ByteArray) : allM L x = valsM L x.data.toList := by
  unfold allM valsM
  congr 1
  refine List.filter_congr fun h _ => ?_
  rw [Bool.eq_iff_iff]
  simp only [decide_eq_true_eq]
  constructor
  · intro e; rw [← e]; rfl
  · intro e; exact ByteArray.ext (Array.toList_inj.1 e)
set_option maxRecDepth 100000 in
set_option maxHeartbeats 1000000 in
theorem dfirst_any (a : Option Addr) (n c : Nat) (L : List Hn) (x : ByteArray) (w : World) (hs : Ns w a n c L) (hn : n ≤ 1000) : Calls Tryd.prog 37 #[.slice a n c, .string x] w fun e w' => e = .returned (.string (firstM L x.data.toList)) ∧ Below w.heap.size w w' := by
  have HA := Lib.hid (dall_any a n c L x w hs hn)
  rw [allM_vals] at HA
  have hF : firstM L x.data.toList = (valsM L x.data.toList).head?.getD ⟨#[]⟩ := rfl
  rw [hF]
  clear hF hs
  generalize valsM L x.data.toList = l at HA ⊢
  go_enter Tryd.func37, Tryd.ntmps37
  go_wp2_with fail
  refine HA.out.mono ?_
  rintro e w1 ⟨a1, N1, c1, rfl, hN1, ho, hb⟩
  have hN := hN1.out
  subst hN
  cases l with
  | nil =>
    go_wp2_with fail
    go_ret
    exact ⟨rfl, hb⟩
  | cons y ys =>
    obtain ⟨b, o, rfl, hc⟩ := (TOwn.own ho).row 0 (by simp)
    simp only [List.getElem_cons_zero, Nat.add_zero] at hc
    have hp : (0 : Int) < (((y :: ys).length : Nat) : Int) := by simp <;> omega
    have hz : ((((y :: ys).length : Nat) : Int) == 0) = false := by rw [beq_eq_false_iff_ne]; simp <;> omega
    generalize (y :: ys).length = len at hp hz ⊢
    go_wp2_with fail
    go_ret
    exact ⟨rfl, hb⟩
end Go.Proofs.YtgoglfahlfkbiaaDoor

namespace Go.Proofs.YtgoglfahlfkbiaaDoor
open Go.RowKit Tt

def updV (v : Nat → Value) (k : Nat) (x : Value) : Nat → Value := fun j => if j = k then x else v j
def nmJ : Nat → ByteArray
  | 0 => ⟨#[58, 109, 101, 116, 104, 111, 100]⟩
  | 1 => ⟨#[58, 115, 99, 104, 101, 109, 101]⟩
  | 2 => ⟨#[58, 97, 117, 116, 104, 111, 114, 105, 116, 121]⟩
  | _ => ⟨#[58, 112, 97, 116, 104]⟩
def rqC (m s a p : ByteArray) : Array Value := #[.string m, .string s, .string a, .string p, .slice none 0 0]
def valJ (ad : Option Addr) (n c i : Nat) (fv : ByteArray → ByteArray) (j : Nat) : Value :=
  if j = 16 then .agg (rqC (fv (nmJ 0)) (fv (nmJ 1)) (fv (nmJ 2)) (fv (nmJ 3))) else if j % 4 = 0 then .slice ad n c else if j % 4 = 1 then .int .i64 (i : Int) else if j % 4 = 2 then .slice ad i c else .string (fv (nmJ (j / 4)))
structure DI (B : Nat) (wr : World) (val : Nat → Value) (cs : Array Value) (ls : Array Bool) (v : Nat → Value) (W : World) : Prop where
  sz : ls.size = 19
  bl : Below B wr W
  vs : ∀ j, j < 17 → on ls j = true → v j = val j
  q : on ls 17 = true → ∃ Q, v 17 = .pointer (some ⟨Q, 0, none⟩) ∧ B ≤ Q ∧ W.heap[Q]? = some (.cells (if on ls 18 = true then cs else rqC ⟨#[]⟩ ⟨#[]⟩ ⟨#[]⟩ ⟨#[]⟩) 32 (0, 0))
  d : on ls 18 = true → on ls 17 = true
variable {B : Nat} {wr W W' : World} {val : Nat → Value} {cs : Array Value} {ls : Array Bool} {v : Nat → Value}
theorem DI.start (hb : Below B wr W) : DI B wr val cs (Array.replicate 19 false) v W :=
  ⟨by simp, hb, (fun j _ h => by rw [off_rep] at h; cases h), (fun h => by rw [off_rep] at h; cases h), (fun h => by rw [off_rep] at h; cases h)⟩
theorem DI.step (h : DI B wr val cs ls v W) (j : Nat) (hj : j < 17) (hB : B ≤ W.heap.size) (hw : Below W.heap.size W W') : DI B wr val cs (ls.setIfInBounds j true) (updV v j (val j)) W' := by
  have hs := h.sz
  have h17 : on (ls.setIfInBounds j true) 17 = on ls 17 := by rw [on_set (by omega)]; simp; omega
  have h18 : on (ls.setIfInBounds j true) 18 = on ls 18 := by rw [on_set (by omega)]; simp; omega
  refine ⟨by simp [hs], h.bl.trans (hw.mono hB), fun k hk hon => ?_, fun hon => ?_, fun hon => ?_⟩
  · unfold updV
    by_cases e : k = j
    · rw [if_pos e, e]
    · rw [if_neg e]
      rw [on_set (by omega)] at hon
      simp only [Bool.or_eq_true, decide_eq_true_eq] at hon
      rcases hon with hon | hon
      · exact absurd hon.symm e
      · exact h.vs k hk hon
  · rw [h17] at hon
    rw [h18]
    obtain ⟨Q, e1, e2, e3⟩ := h.q hon
    refine ⟨Q, ?_, e2, ?_⟩
    · unfold updV
      rw [if_neg (by omega)]
      exact e1
    · rw [hw.block Q (Array.getElem?_eq_some_iff.1 e3).1]
      exact e3
  · rw [h18] at hon
    rw [h17]
    exact h.d hon
theorem DI.made (h : DI B wr val cs ls v W) (hoff : on ls 17 = false) (hB : B ≤ W.heap.size) :
    DI B wr val cs (ls.setIfInBounds 17 true) (updV v 17 (.pointer (some ⟨W.heap.size, 0, none⟩))) (W.alloc (.cells (rqC ⟨#[]⟩ ⟨#[]⟩ ⟨#[]⟩ ⟨#[]⟩) 32)) := by
  have hs := h.sz
  have h18 : on (ls.setIfInBounds 17 true) 18 = false := by
    rw [on_set (by omega)]
    cases h8 : on ls 18 with
    | false => rfl
    | true => rw [h.d h8] at hoff; cases hoff
  refine ⟨by simp [hs], h.bl.alloc hB _, fun k hk hon => ?_, fun _ => ?_, fun hon => ?_⟩
  · unfold updV
    rw [if_neg (by omega)]
    rw [on_set (by omega)] at hon
    simp only [Bool.or_eq_true, decide_eq_true_eq] at hon
    rcases hon with hon | hon
    · omega
    · exact h.vs k hk hon
  · rw [h18]
    refine ⟨W.heap.size, by unfold updV; rw [if_pos rfl], hB, ?_⟩
    show (W.heap.push _)[W.heap.size]? = _
    exact Array.getElem?_push_size
  · rw [h18] at hon; cases hon
theorem DI.stored (h : DI B wr val cs ls v W) (hoff : on ls 18 = false) (hon : on ls 17 = true) {Q : Nat} (hQ : v 17 = .pointer (some ⟨Q, 0, none⟩)) (hBQ : B ≤ Q) (hb : Below B wr W') (hc : W'.heap[Q]? = some (.cells cs 32 (0, 0))) :
    DI B wr val cs (ls.setIfInBounds 18 true) v W' := by
  have hs := h.sz
  have h18 : on (ls.setIfInBounds 18 true) 18 = true := by rw [on_set (by omega)]; rfl
  have h17 : on (ls.setIfInBounds 18 true) 17 = true := by rw [on_set (by omega), hon]; simp
  refine ⟨by simp [hs], hb, fun k hk hk' => ?_, fun _ => ?_, fun _ => h17⟩
  · rw [on_set (by omega)] at hk'
    simp only [Bool.or_eq_true, decide_eq_true_eq] at hk'
    rcases hk' with hk' | hk'
    · omega
    · exact h.vs k hk hk'
  · rw [h18]
    exact ⟨Q, hQ, hBQ, hc⟩
theorem set_heap {w : World} {r i : Nat} {cs : Array Value} {t : TypeId} {z : Nat × Nat} (h : w.heap[r]? = some (.cells cs t z)) (u : Value) : (w.setCell ⟨r, i, none⟩ u).heap[r]? = some (.cells (cs.setIfInBounds i u) t z) := by
  show (w.heap.modify r _)[r]? = _
  rw [Array.getElem?_modify, if_pos rfl, h]
  rfl
theorem wp_skip {P : Program} {o : Oper} {a : Act} {w w' : World} {K : Act → World → Prop} {Q : Exit → Act → World → Prop} (h : (execOp a.eval o).run P w = .ok .skip w') (hk : K (a.put o.dst undef) w') : Oper.wp P o a w K Q := by
  unfold Oper.wp
  rw [h]
  exact hk
end Go.Proofs.YtgoglfahlfkbiaaDoor
