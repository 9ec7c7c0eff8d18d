/-
  PLAIN MATHEMATICS of what is built: a request's list, an answer's list, opened again.
-/
import Derived.Test.YtmabnljnochdcaaDoorLh
import Derived.Lib.ItoaNum
namespace Go.Proofs.YtmabnljnochdcaaDoor
open Go.RowKit Tt

def nmB (l : List UInt8) : ByteArray := ⟨l.toArray⟩
theorem nmB_list (l : List UInt8) : (nmB l).data.toList = l := by simp [nmB]
def hdB (l : List UInt8) (v : ByteArray) : Hn := ((nmB l, v), false)
/-- The headers with a colon of a request. -/
def hR (q : RQ) : List Hn := [hdB mL q.m, hdB sL q.s] ++ (if q.a = ⟨#[]⟩ then [] else [hdB aL q.a]) ++ [hdB pL q.p]
theorem takeR_step {S : SR} {h : Hn} {t : List Hn} {r : SR × List Hn} (hp : pre1 58 h.1.1 = true) (ht : takeR S (h :: t) = some r) : takeR (stR S h.1.1 h.1.2) t = some r := by
  simp only [takeR] at ht
  rw [if_pos hp] at ht
  split at ht
  · exact ht
  · cases ht
theorem takeR_nil {S : SR} {r : SR × List Hn} (ht : takeR S [] = some r) : r = (S, []) := by
  simp only [takeR] at ht
  exact (Option.some.inj ht).symm
theorem pre_nm : pre1 58 (nmB mL) = true ∧ pre1 58 (nmB sL) = true ∧ pre1 58 (nmB aL) = true ∧ pre1 58 (nmB pL) = true := by
  refine ⟨?_, ?_, ?_, ?_⟩ <;> kernel_rfl
theorem upd_m (S : RQ) (v : ByteArray) : updR S (nmB mL) v = { S with m := v } := by unfold updR; rw [if_pos (nmB_list _)]
theorem upd_s (S : RQ) (v : ByteArray) : updR S (nmB sL) v = { S with s := v } := by unfold updR; rw [if_neg (by rw [nmB_list]; decide), if_pos (nmB_list _)]
theorem upd_a (S : RQ) (v : ByteArray) : updR S (nmB aL) v = { S with a := v } := by unfold updR; rw [if_neg (by rw [nmB_list]; decide), if_neg (by rw [nmB_list]; decide), if_pos (nmB_list _)]
theorem upd_p (S : RQ) (v : ByteArray) : updR S (nmB pL) v = { S with p := v } := by unfold updR; rw [if_neg (by rw [nmB_list]; decide), if_neg (by rw [nmB_list]; decide), if_neg (by rw [nmB_list]; decide), if_pos (nmB_list _)]
theorem hR_take (q : RQ) {S : SR} (h : takeR (q0, []) (hR q) = some (S, [])) : S.1 = q := by
  unfold hR at h
  by_cases e : q.a = ⟨#[]⟩
  · rw [if_pos e] at h
    have h1 := takeR_step pre_nm.1 h
    have h2 := takeR_step pre_nm.2.1 h1
    have h3 := takeR_step pre_nm.2.2.2 h2
    have h4 := takeR_nil h3
    obtain rfl := congrArg Prod.fst h4
    simp only [stR, hdB]
    rw [upd_m, upd_s, upd_p]
    cases q
    simp only at e
    subst e
    rfl
  · rw [if_neg e] at h
    have h1 := takeR_step pre_nm.1 h
    have h2 := takeR_step pre_nm.2.1 h1
    have h3 := takeR_step pre_nm.2.2.1 h2
    have h4 := takeR_step pre_nm.2.2.2 h3
    have h5 := takeR_nil h4
    obtain rfl := congrArg Prod.fst h5
    simp only [stR, hdB]
    rw [upd_m, upd_s, upd_a, upd_p]
/-- What is built is opened as it was. -/
theorem back_open {q q' : RQ} {rest R : List Hn} (h : openR (hR q ++ rest) = some (q', R)) (hl : R.length = rest.length) : q' = q ∧ R = rest := by
  unfold openR at h
  cases ht : takeR (q0, []) (hR q ++ rest) with
  | none => rw [ht] at h; cases h
  | some x =>
    obtain ⟨S, R'⟩ := x
    rw [ht] at h
    simp only at h
    split at h
    · simp only [Option.some.injEq, Prod.mk.injEq] at h
      obtain ⟨rfl, rfl⟩ := h
      obtain ⟨C, hC, hT, _⟩ := takeR_split _ _ _ _ ht
      have hlen : (hR q).length = C.length := by
        have := congrArg List.length hC
        simp only [List.length_append] at this
        omega
      obtain ⟨rfl, rfl⟩ := List.append_inj hC hlen
      exact ⟨hR_take q hT, rfl⟩
    · cases h
/-- Is a request's list taken? -/
def okReq (q : RQ) (rest : List Hn) : Bool := match openR (hR q ++ rest) with
  | some (_, R) => decide (R.length = rest.length)
  | none => false
theorem okReq_open {q : RQ} {rest : List Hn} (h : okReq q rest = true) : openR (hR q ++ rest) = some (q, rest) := by
  unfold okReq at h
  cases ho : openR (hR q ++ rest) with
  | none => rw [ho] at h; cases h
  | some x =>
    obtain ⟨q', R⟩ := x
    rw [ho] at h
    obtain ⟨rfl, rfl⟩ := back_open ho (of_decide_eq_true h)
    rfl

/-- The header with a colon of an answer. -/
def hA (st : Int) : Hn := hdB stL ⟨(Lib.itoa st).toArray⟩
theorem decV_dec : ∀ u : Nat, decV (Lib.decDigits u) = u := fun u => by
  induction u using Nat.strongRecOn with
  | ind u ih =>
    rw [Lib.decDigits]
    split
    · rename_i h
      show (0 * 10 + ((UInt8.ofNat (48 + u)).toNat - 48)) = u
      have : (UInt8.ofNat (48 + u)).toNat = 48 + u := by simp; omega
      rw [this]
      omega
    · rename_i h
      have h1 := ih (u / 10) (by omega)
      unfold decV at h1 ⊢
      rw [List.foldl_append, h1]
      show (u / 10 * 10 + ((UInt8.ofNat (48 + u % 10)).toNat - 48)) = u
      have : (UInt8.ofNat (48 + u % 10)).toNat = 48 + u % 10 := by simp; omega
      rw [this]
      omega
theorem stat_itoa {st : Int} (h : statB ⟨(Lib.itoa st).toArray⟩ = true) : ((digP ⟨(Lib.itoa st).toArray⟩ 3 3).1 : Int) = st := by
  unfold statB at h
  simp only [Bool.and_eq_true] at h
  have h2 := h.1
  unfold digP at h2 ⊢
  split at h2
  · cases h2
  · rename_i hs
    split at h2
    · rename_i hd
      rw [if_neg hs, if_pos hd]
      have hd' : (Lib.itoa st).all digitB = true := by simpa using hd
      show ((decV (Lib.itoa st) : Nat) : Int) = st
      unfold Lib.itoa at hd' ⊢
      split at hd'
      · rw [List.all_cons] at hd'
        simp only [Bool.and_eq_true] at hd'
        exact absurd hd'.1 (by decide)
      · rename_i hn
        rw [if_neg hn, decV_dec]
        omega
    · cases h2
/-- What is built is opened as it was. -/
theorem back_openA {st : Int} {rest : List Hn} {k : Nat} {R : List Hn} (h : openA (hA st :: rest) = some (k, R)) : (k : Int) = st ∧ R = rest := by
  have hp : pre1 58 (nmB stL) = true := by kernel_rfl
  unfold openA at h
  cases ht : takeA (0, []) (hA st :: rest) with
  | none => rw [ht] at h; cases h
  | some x =>
    obtain ⟨S, R'⟩ := x
    rw [ht] at h
    simp only at h
    split at h
    · simp only [Option.some.injEq, Prod.mk.injEq] at h
      obtain ⟨rfl, rfl⟩ := h
      simp only [takeA] at ht
      rw [if_pos (show pre1 58 (hA st).1.1 = true from hp)] at ht
      split at ht
      · rename_i hc
        have hst := stat_itoa (show statB ⟨(Lib.itoa st).toArray⟩ = true from hc.2.2)
        have fin : takeA (stA (0, []) (hA st).1.1 (hA st).1.2) rest = some (S, R') → S = stA (0, []) (hA st).1.1 (hA st).1.2 ∧ R' = rest := by
          intro hh
          cases rest with
          | nil =>
            simp only [takeA, Option.some.injEq, Prod.mk.injEq] at hh
            exact ⟨hh.1.symm, hh.2.symm⟩
          | cons y ys =>
            simp only [takeA] at hh
            split at hh
            · split at hh
              · rename_i hy
                exfalso
                have h1 := hy.1
                simp only [Bool.and_eq_true, decide_eq_true_eq] at h1
                obtain ⟨h1, h2⟩ := h1
                revert h2
                unfold stA seenB
                simp only [List.nil_append, List.any_cons, List.any_nil, Bool.or_false]
                rw [show (hA st).1.1.data.toList = stL from nmB_list _, h1]
                simp
              · cases hh
            · simp only [Option.some.injEq, Prod.mk.injEq] at hh
              exact ⟨hh.1.symm, hh.2.symm⟩
        obtain ⟨rfl, rfl⟩ := fin ht
        exact ⟨hst, rfl⟩
      · cases ht
    · cases h
end Go.Proofs.YtmabnljnochdcaaDoor
