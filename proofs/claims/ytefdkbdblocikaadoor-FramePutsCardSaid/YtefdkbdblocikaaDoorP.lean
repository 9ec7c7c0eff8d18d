/-
  CONTRACTS: the padding of a payload.
-/
import Derived.Test.YtefdkbdblocikaaDoorJ
namespace Go.Proofs.YtefdkbdblocikaaDoor
open Go.RowKit Hu

/-- What stands between Pad and the padding; or a fault. -/
def unpad (I : IV) (l : List UInt8) : Except (Int × Int) (IV × List UInt8) :=
  if I.pd = false then .ok (I, l) else match l with
    | [] => .error (6, 0)
    | c :: t => if t.length + 1 ≤ c.toNat then .error (1, 0) else .ok ({ I with pad := (c.toNat : Int) }, t.take (t.length - c.toNat))
def PadPost (p : Nat) (a : Option Addr) (x : Except (Int × Int) (IV × List UInt8)) (w : World) (e : Ending) (w' : World) : Prop := Kb p w w' ∧ match x with
  | .ok (I, l) => ∃ a' n' c', e = .returned (.tuple #[.slice a' n' c', .nilIface]) ∧ Ib w' p I ∧ Sl w' a' n' c' l ∧ ∀ q, a' = some q → ∃ q0, a = some q0 ∧ q.block = q0.block
  | .error (k, s) => ∃ v, e = .returned (.tuple #[.slice none 0 0, v]) ∧ HErr w' w.heap.size v k s
theorem part_block {a : Option Addr} {c k : Nat} : ∀ q, Hu.partAt a c k = some q → ∃ q0, a = some q0 ∧ q.block = q0.block := by
  intro q hq
  unfold Hu.partAt at hq
  split at hq
  · exact ⟨q, hq, rfl⟩
  · cases a with
    | none => simp at hq
    | some q0 =>
      simp at hq
      refine ⟨q0, rfl, ?_⟩
      rw [← hq]
      unfold Addr.add
      split <;> rfl
set_option maxRecDepth 100000 in
set_option maxHeartbeats 4000000 in
theorem unpad_any (p : Nat) (I : IV) (a : Option Addr) (n c : Nat) (l : List UInt8) (w : World) (h : Ib w p I) (hs : Sl w a n c l) (hn : n ≤ 20000000) (hne : ∀ q, a = some q → 0 < n → q.block ≠ p) :
    Calls Tryd.prog 60 #[.pointer (some ⟨p, 0, none⟩), .slice a n c] w (PadPost p a (unpad I l) w) := by
  have c6 := h.c 6 _ rfl
  have c9 := h.c 9 _ rfl
  have z9 := h.z 9
  have HI := Lib.hid h
  have HS := Lib.hid hs
  have HL := Lib.hid hs.len
  have HN := Lib.hid hne
  have hcm := hs.max
  have hle := hs.le
  unfold maxLen at hcm
  clear h hs hne
  cases hpd : I.pd with
  | false =>
    have HU : Hid (unpad I l = .ok (I, l)) := Lib.hid (by unfold unpad; rw [if_pos hpd])
    rw [hpd] at c6
    clear hpd
    go_enter Tryd.func60, Tryd.ntmps60
    go_wp2_with fail
    go_ret2
    refine ⟨Kb.refl _ _, ?_⟩
    rw [HU.out]
    exact ⟨_, _, _, rfl, HI.out, HS.out, fun q hq => ⟨q, hq, rfl⟩⟩
  | true =>
    rw [hpd] at c6
    cases l with
    | nil =>
      have HU : Hid (unpad I [] = .error (6, 0)) := Lib.hid (by unfold unpad; rw [if_neg (by rw [hpd]; decide)])
      have hn0 : n = 0 := by have := HL.out; simpa using this.symm
      subst hn0
      clear hpd
      go_enter Tryd.func60, Tryd.ntmps60
      go_wp2_with fail
      refine (h2_any _ _ _).mono ?_
      rintro e w2 ⟨⟨v, rfl, hv⟩, hb2⟩
      go_wp2_with fail
      go_ret2
      refine ⟨Kb.of_below hb2, ?_⟩
      rw [HU.out]
      exact ⟨_, rfl, hv⟩
    | cons x t =>
      have HU : Hid (unpad I (x :: t) = if t.length + 1 ≤ x.toNat then .error (1, 0) else .ok ({ I with pad := (x.toNat : Int) }, t.take (t.length - x.toNat))) := Lib.hid (by unfold unpad; rw [if_neg (by rw [hpd]; decide)])
      have hnt : n = t.length + 1 := by have := HL.out; simpa using this.symm
      obtain ⟨b, o, rfl, hc0⟩ := HS.out.row 0 (by simp)
      simp only [Nat.add_zero, List.getElem_cons_zero] at hc0
      have hbp : b ≠ p := by have := HN.out _ rfl (by omega); simpa using this
      have hx := x.toNat_lt
      have hn0 : ((n : Int) == 0) = false := by rw [beq_eq_false_iff_ne]; omega
      have hn1 : (0 : Int) < (n : Int) := by omega
      have c9' := cell_setS w p 9 (.int .i64 (x.toNat : Int)) _ c9
      have HK := Lib.hid (Kb.set (p := p) w 9 (.int .i64 (x.toNat : Int)))
      have HI2 := Lib.hid (HI.out.set 9 (.int .i64 (x.toNat : Int)) { I with pad := (x.toNat : Int) } (by decide) rfl)
      have HX := Lib.hid hnt
      clear hpd hnt
      by_cases hge : n ≤ x.toNat
      · have hge' : (n : Int) ≤ (x.toNat : Int) := by omega
        go_enter Tryd.func60, Tryd.ntmps60
        go_wp2_with fail
        refine (h2_any _ _ _).mono ?_
        rintro e w2 ⟨⟨v, rfl, hv⟩, hb2⟩
        go_wp2_with fail
        go_ret2
        refine ⟨HK.out.trans (Kb.of_below hb2), ?_⟩
        rw [HU.out, if_pos (by have := HX.out; omega)]
        exact ⟨_, rfl, hv.mono (by simp [World.setCell])⟩
      · have hge' : (x.toNat : Int) < (n : Int) := by omega
        have hsl := fun W => slice_lh (some ⟨b, o, none⟩) n c 1 ((n : Int) - (x.toNat : Int)) (by omega) (by omega) (by omega) (n - x.toNat - 1) (c - 1) (by omega) (by omega) 1 (by omega) W
        go_enter Tryd.func60, Tryd.ntmps60
        go_wp2_with fail
        go_ret2
        refine ⟨HK.out, ?_⟩
        rw [HU.out, if_neg (by have := HX.out; omega)]
        refine ⟨_, _, _, rfl, HI2.out, ?_, part_block⟩
        refine sl_part (sl_kb HS.out HK.out HN.out) 1 _ (by omega) _ ?_
        simp only [List.drop_succ_cons, List.drop_zero]
        congr 1
        have := HX.out
        omega
end Go.Proofs.YtefdkbdblocikaaDoor
