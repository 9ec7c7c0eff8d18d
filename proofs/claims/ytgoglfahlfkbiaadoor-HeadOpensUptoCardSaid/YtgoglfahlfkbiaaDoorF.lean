/-
  CONTRACTS: a plain header, trailers.
-/
import Derived.Test.YtgoglfahlfkbiaaDoorE
namespace Go.Proofs.YtgoglfahlfkbiaaDoor
open Go.RowKit Tt

def bn0 : ByteArray := ⟨#[99, 111, 110, 110, 101, 99, 116, 105, 111, 110]⟩
def bn1 : ByteArray := ⟨#[112, 114, 111, 120, 121, 45, 99, 111, 110, 110, 101, 99, 116, 105, 111, 110]⟩
def bn2 : ByteArray := ⟨#[107, 101, 101, 112, 45, 97, 108, 105, 118, 101]⟩
def bn3 : ByteArray := ⟨#[116, 114, 97, 110, 115, 102, 101, 114, 45, 101, 110, 99, 111, 100, 105, 110, 103]⟩
def bn4 : ByteArray := ⟨#[117, 112, 103, 114, 97, 100, 101]⟩
def teA : ByteArray := ⟨#[116, 101]⟩
def trA : ByteArray := ⟨#[116, 114, 97, 105, 108, 101, 114, 115]⟩
/-- A name and a value that may stand together. -/
def restB (h : Hd) : Bool := if h.1 = bn0 ∨ h.1 = bn1 ∨ h.1 = bn2 ∨ h.1 = bn3 ∨ h.1 = bn4 then false else if h.1 = teA then decide (h.2 = trA) else true
def plainB (h : Hd) : Bool := nameB h.1 && (valueB h.2 && restB h)
theorem te_no : ¬ (teA = bn0 ∨ teA = bn1 ∨ teA = bn2 ∨ teA = bn3 ∨ teA = bn4) := by decide
theorem eqs {a b : ByteArray} (h : a = b) : a.toList = b.toList := by rw [h]
theorem nes {a b : ByteArray} (h : ¬ a = b) : ¬ a.toList = b.toList := by
  rw [Lib.toList_data, Lib.toList_data]
  intro e
  apply h
  cases a; cases b
  simp only [ByteArray.mk.injEq]
  exact Array.ext' e
theorem nel {a b : ByteArray} {l : List UInt8} (h : ¬ a = b) (hb : b.toList = l) : (a.toList == l) = false := by
  subst hb
  rw [beq_eq_false_iff_ne]
  exact nes h
set_option maxRecDepth 100000 in
set_option maxHeartbeats 2000000 in
theorem plain_any (h : Hd) (v : Bool) (w : World) (h1 : h.1.size ≤ 140737488355328) (h2 : h.2.size ≤ 140737488355328) : Calls Tryd.prog 39 #[hdN h v] w fun e w' => e = .returned (.bool (plainB h)) ∧ Below w.heap.size w w' := by
  obtain ⟨a, b⟩ := h
  simp only at h1 h2
  have hb0 : Below w.heap.size w (w.alloc (.cells #[.string a, .string b, .bool v] 54)) := (Below.refl _ w).alloc (Nat.le_refl _) _
  have k0 : (w.alloc (.cells #[.string a, .string b, .bool v] 54)).cell? ⟨w.heap.size, 0, none⟩ = some (.string a) := by simp
  have k1 : (w.alloc (.cells #[.string a, .string b, .bool v] 54)).cell? ⟨w.heap.size, 1, none⟩ = some (.string b) := by simp
  have hz0 : (w.alloc (.cells #[.string a, .string b, .bool v] 54)).heap.size = w.heap.size + 1 := by simp
  have HN := Lib.hid (fun W => name_any a W (by omega))
  have HV := Lib.hid (fun W => value_any b W h2)
  have HR : Hid (plainB (a, b) = (nameB a && (valueB b && restB (a, b)))) := Lib.hid rfl
  generalize nameB a = na at HN HR
  generalize valueB b = vb at HV HR
  cases na with
  | false =>
    go_enter Tryd.func39, Tryd.ntmps39
    go_wp2_with fail
    refine (HN.out _).mono ?_
    rintro e w' ⟨rfl, rfl⟩
    go_wp2_with fail
    go_ret
    exact ⟨by rw [HR.out]; rfl, hb0⟩
  | true =>
    have hEnd : ∀ r, restB (a, b) = r → ∀ W, Below (w.alloc (.cells #[.string a, .string b, .bool v] 54)).heap.size (w.alloc (.cells #[.string a, .string b, .bool v] 54)) W → Below w.heap.size w W := fun _ _ W h => hb0.trans (h.mono (by simp))
    have HEN := Lib.hid hEnd
    clear hEnd
    cases vb with
    | false =>
      go_enter Tryd.func39, Tryd.ntmps39
      go_wp2_with fail
      refine (HN.out _).mono ?_
      rintro e w' ⟨rfl, rfl⟩
      go_wp2_with fail
      refine (HV.out _).mono ?_
      rintro e w' ⟨rfl, hb1⟩
      go_wp2_with fail
      go_ret
      exact ⟨by rw [HR.out]; rfl, hb0.trans (hb1.mono (by simp))⟩
    | true =>
      have hcase : (a = bn0 ∨ a = bn1 ∨ a = bn2 ∨ a = bn3 ∨ a = bn4) ∨ ((¬ a = bn0 ∧ ¬ a = bn1 ∧ ¬ a = bn2 ∧ ¬ a = bn3 ∧ ¬ a = bn4) ∧ a = teA) ∨ ((¬ a = bn0 ∧ ¬ a = bn1 ∧ ¬ a = bn2 ∧ ¬ a = bn3 ∧ ¬ a = bn4) ∧ ¬ a = teA) := by
        by_cases q0 : a = bn0 ∨ a = bn1 ∨ a = bn2 ∨ a = bn3 ∨ a = bn4
        · exact Or.inl q0
        · have : ¬ a = bn0 ∧ ¬ a = bn1 ∧ ¬ a = bn2 ∧ ¬ a = bn3 ∧ ¬ a = bn4 := ⟨fun h => q0 (Or.inl h), fun h => q0 (Or.inr (Or.inl h)), fun h => q0 (Or.inr (Or.inr (Or.inl h))), fun h => q0 (Or.inr (Or.inr (Or.inr (Or.inl h)))), fun h => q0 (Or.inr (Or.inr (Or.inr (Or.inr h))))⟩
          by_cases q1 : a = teA
          · exact Or.inr (Or.inl ⟨this, q1⟩)
          · exact Or.inr (Or.inr ⟨this, q1⟩)
      rcases hcase with hq | ⟨hq, hq'⟩ | ⟨hq, hq'⟩
      · rcases hq with hq | hq | hq | hq | hq
        · replace hq : a = ⟨#[99, 111, 110, 110, 101, 99, 116, 105, 111, 110]⟩ := hq
          subst hq
          have HF : Hid (restB (⟨#[99, 111, 110, 110, 101, 99, 116, 105, 111, 110]⟩, b) = false) := Lib.hid (by unfold restB; exact if_pos (Or.inl rfl))
          go_enter Tryd.func39, Tryd.ntmps39
          go_wp2_with fail
          refine (HN.out _).mono ?_
          rintro e w' ⟨rfl, rfl⟩
          go_wp2_with fail
          refine (HV.out _).mono ?_
          rintro e w2 ⟨rfl, hb1⟩
          have hB := Lib.hid (hb0.trans (hb1.mono (by simp)))
          have k0' := (hb1.cell (p := ⟨w.heap.size, 0, none⟩) (by simp)).trans k0
          have k1' := (hb1.cell (p := ⟨w.heap.size, 1, none⟩) (by simp)).trans k1
          clear k0 k1 hb1
          go_wp2_with fail
          go_ret
          exact ⟨by rw [HR.out, HF.out]; rfl, hB.out⟩
        · replace hq : a = ⟨#[112, 114, 111, 120, 121, 45, 99, 111, 110, 110, 101, 99, 116, 105, 111, 110]⟩ := hq
          subst hq
          have HF : Hid (restB (⟨#[112, 114, 111, 120, 121, 45, 99, 111, 110, 110, 101, 99, 116, 105, 111, 110]⟩, b) = false) := Lib.hid (by unfold restB; exact if_pos (Or.inr (Or.inl rfl)))
          go_enter Tryd.func39, Tryd.ntmps39
          go_wp2_with fail
          refine (HN.out _).mono ?_
          rintro e w' ⟨rfl, rfl⟩
          go_wp2_with fail
          refine (HV.out _).mono ?_
          rintro e w2 ⟨rfl, hb1⟩
          have hB := Lib.hid (hb0.trans (hb1.mono (by simp)))
          have k0' := (hb1.cell (p := ⟨w.heap.size, 0, none⟩) (by simp)).trans k0
          have k1' := (hb1.cell (p := ⟨w.heap.size, 1, none⟩) (by simp)).trans k1
          clear k0 k1 hb1
          go_wp2_with fail
          go_ret
          exact ⟨by rw [HR.out, HF.out]; rfl, hB.out⟩
        · replace hq : a = ⟨#[107, 101, 101, 112, 45, 97, 108, 105, 118, 101]⟩ := hq
          subst hq
          have HF : Hid (restB (⟨#[107, 101, 101, 112, 45, 97, 108, 105, 118, 101]⟩, b) = false) := Lib.hid (by unfold restB; exact if_pos (Or.inr (Or.inr (Or.inl rfl))))
          go_enter Tryd.func39, Tryd.ntmps39
          go_wp2_with fail
          refine (HN.out _).mono ?_
          rintro e w' ⟨rfl, rfl⟩
          go_wp2_with fail
          refine (HV.out _).mono ?_
          rintro e w2 ⟨rfl, hb1⟩
          have hB := Lib.hid (hb0.trans (hb1.mono (by simp)))
          have k0' := (hb1.cell (p := ⟨w.heap.size, 0, none⟩) (by simp)).trans k0
          have k1' := (hb1.cell (p := ⟨w.heap.size, 1, none⟩) (by simp)).trans k1
          clear k0 k1 hb1
          go_wp2_with fail
          go_ret
          exact ⟨by rw [HR.out, HF.out]; rfl, hB.out⟩
        · replace hq : a = ⟨#[116, 114, 97, 110, 115, 102, 101, 114, 45, 101, 110, 99, 111, 100, 105, 110, 103]⟩ := hq
          subst hq
          have HF : Hid (restB (⟨#[116, 114, 97, 110, 115, 102, 101, 114, 45, 101, 110, 99, 111, 100, 105, 110, 103]⟩, b) = false) := Lib.hid (by unfold restB; exact if_pos (Or.inr (Or.inr (Or.inr (Or.inl rfl)))))
          go_enter Tryd.func39, Tryd.ntmps39
          go_wp2_with fail
          refine (HN.out _).mono ?_
          rintro e w' ⟨rfl, rfl⟩
          go_wp2_with fail
          refine (HV.out _).mono ?_
          rintro e w2 ⟨rfl, hb1⟩
          have hB := Lib.hid (hb0.trans (hb1.mono (by simp)))
          have k0' := (hb1.cell (p := ⟨w.heap.size, 0, none⟩) (by simp)).trans k0
          have k1' := (hb1.cell (p := ⟨w.heap.size, 1, none⟩) (by simp)).trans k1
          clear k0 k1 hb1
          go_wp2_with fail
          go_ret
          exact ⟨by rw [HR.out, HF.out]; rfl, hB.out⟩
        · replace hq : a = ⟨#[117, 112, 103, 114, 97, 100, 101]⟩ := hq
          subst hq
          have HF : Hid (restB (⟨#[117, 112, 103, 114, 97, 100, 101]⟩, b) = false) := Lib.hid (by unfold restB; exact if_pos (Or.inr (Or.inr (Or.inr (Or.inr rfl)))))
          go_enter Tryd.func39, Tryd.ntmps39
          go_wp2_with fail
          refine (HN.out _).mono ?_
          rintro e w' ⟨rfl, rfl⟩
          go_wp2_with fail
          refine (HV.out _).mono ?_
          rintro e w2 ⟨rfl, hb1⟩
          have hB := Lib.hid (hb0.trans (hb1.mono (by simp)))
          have k0' := (hb1.cell (p := ⟨w.heap.size, 0, none⟩) (by simp)).trans k0
          have k1' := (hb1.cell (p := ⟨w.heap.size, 1, none⟩) (by simp)).trans k1
          clear k0 k1 hb1
          go_wp2_with fail
          go_ret
          exact ⟨by rw [HR.out, HF.out]; rfl, hB.out⟩
      · replace hq' : a = ⟨#[116, 101]⟩ := hq'
        subst hq'
        clear hq
        by_cases ht : b = trA
        · replace ht : b = ⟨#[116, 114, 97, 105, 108, 101, 114, 115]⟩ := ht
          subst ht
          have HF : Hid (restB (⟨#[116, 101]⟩, ⟨#[116, 114, 97, 105, 108, 101, 114, 115]⟩) = true) := Lib.hid (by decide)
          go_enter Tryd.func39, Tryd.ntmps39
          go_wp2_with fail
          refine (HN.out _).mono ?_
          rintro e w' ⟨rfl, rfl⟩
          go_wp2_with fail
          refine (HV.out _).mono ?_
          rintro e w2 ⟨rfl, hb1⟩
          have hB := Lib.hid (hb0.trans (hb1.mono (by simp)))
          have k0' := (hb1.cell (p := ⟨w.heap.size, 0, none⟩) (by simp)).trans k0
          have k1' := (hb1.cell (p := ⟨w.heap.size, 1, none⟩) (by simp)).trans k1
          clear k0 k1 hb1
          go_wp2_with fail
          go_ret
          exact ⟨by rw [HR.out, HF.out]; rfl, hB.out⟩
        · have HF : Hid (restB (⟨#[116, 101]⟩, b) = false) := Lib.hid (by unfold restB; exact (if_neg te_no).trans ((if_pos rfl).trans (decide_eq_false ht)))
          have hne : ¬ b.toList = (⟨#[116, 114, 97, 105, 108, 101, 114, 115]⟩ : ByteArray).toList := nes ht
          clear ht
          go_enter Tryd.func39, Tryd.ntmps39
          go_wp2_with fail
          refine (HN.out _).mono ?_
          rintro e w' ⟨rfl, rfl⟩
          go_wp2_with fail
          refine (HV.out _).mono ?_
          rintro e w2 ⟨rfl, hb1⟩
          have hB := Lib.hid (hb0.trans (hb1.mono (by simp)))
          have k0' := (hb1.cell (p := ⟨w.heap.size, 0, none⟩) (by simp)).trans k0
          have k1' := (hb1.cell (p := ⟨w.heap.size, 1, none⟩) (by simp)).trans k1
          clear k0 k1 hb1
          go_wp2_with fail
          go_ret
          exact ⟨by rw [HR.out, HF.out]; simp_all, hB.out⟩
      · have HF : Hid (restB (a, b) = true) := Lib.hid (by unfold restB; rw [if_neg (by rintro (h | h | h | h | h) <;> simp_all), if_neg hq'])
        obtain ⟨q0, q1, q2, q3, q4⟩ := hq
        have e0 : (a.toList == [99, 111, 110, 110, 101, 99, 116, 105, 111, 110]) = false := nel q0 (by rw [Lib.toList_data]; rfl)
        have e1 : (a.toList == [112, 114, 111, 120, 121, 45, 99, 111, 110, 110, 101, 99, 116, 105, 111, 110]) = false := nel q1 (by rw [Lib.toList_data]; rfl)
        have e2 : (a.toList == [107, 101, 101, 112, 45, 97, 108, 105, 118, 101]) = false := nel q2 (by rw [Lib.toList_data]; rfl)
        have e3 : (a.toList == [116, 114, 97, 110, 115, 102, 101, 114, 45, 101, 110, 99, 111, 100, 105, 110, 103]) = false := nel q3 (by rw [Lib.toList_data]; rfl)
        have e4 : (a.toList == [117, 112, 103, 114, 97, 100, 101]) = false := nel q4 (by rw [Lib.toList_data]; rfl)
        have e5 : (a.toList == [116, 101]) = false := nel hq' (by rw [Lib.toList_data]; rfl)
        clear q0 q1 q2 q3 q4 hq'
        go_enter Tryd.func39, Tryd.ntmps39
        go_wp2_with fail
        refine (HN.out _).mono ?_
        rintro e w' ⟨rfl, rfl⟩
        go_wp2_with fail
        refine (HV.out _).mono ?_
        rintro e w2 ⟨rfl, hb1⟩
        have hB := Lib.hid (hb0.trans (hb1.mono (by simp)))
        have k0' := (hb1.cell (p := ⟨w.heap.size, 0, none⟩) (by simp)).trans k0
        have k1' := (hb1.cell (p := ⟨w.heap.size, 1, none⟩) (by simp)).trans k1
        clear k0 k1 hb1
        go_wp2_with fail
        go_ret
        exact ⟨by rw [HR.out, HF.out]; rfl, hB.out⟩
end Go.Proofs.YtgoglfahlfkbiaaDoor
