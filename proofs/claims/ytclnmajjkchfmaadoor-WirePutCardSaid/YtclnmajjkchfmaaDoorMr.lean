/-
  PLAIN MATHEMATICS: tags, what stands behind them, records (P1.5). No program is named here.
-/
import Derived.Test.YtclnmajjkchfmaaDoorM
namespace Go.Proofs.YtclnmajjkchfmaaDoor
open Go.RowKit
namespace Wr

theorem uvGo_ok : ∀ (l : List UInt8) (k acc u n : Nat), k ≤ 9 → acc < 2 ^ (7 * k) → uvGo k acc l = .ok (u, n) → k + 1 ≤ n ∧ n ≤ k + l.length ∧ n ≤ 10 ∧ u ≤ 18446744073709551615
  | [], k, acc, u, n, _, _, h => by simp [uvGo] at h
  | c :: l, k, acc, u, n, hk, hacc, h => by
    have hc := c.toNat_lt
    by_cases h9 : k = 9 ∧ 1 < c.toNat
    · rw [uvGo, if_pos h9] at h; cases h
    · by_cases h128 : c.toNat < 128
      · rw [uvGo_last h9 h128] at h
        simp only [Res.ok.injEq, Prod.mk.injEq] at h
        obtain ⟨rfl, rfl⟩ := h
        refine ⟨Nat.le_refl _, by simp only [List.length_cons]; omega, by omega, ?_⟩
        by_cases hk9 : k = 9
        · subst hk9
          have : c.toNat ≤ 1 := by omega
          have h63 := hacc
          have : c.toNat = 0 ∨ c.toNat = 1 := by omega
          simp at h63
          rcases this with e | e <;> rw [e] <;> omega
        · have h1 := pow_le_56 (k := k) (by omega)
          have h2 : c.toNat * 2 ^ (7 * k) ≤ 127 * 2 ^ (7 * k) := Nat.mul_le_mul_right _ (by omega)
          omega
      · rw [uvGo_more h9 h128] at h
        have hk9 : k ≠ 9 := by omega
        have := uvGo_ok l (k + 1) _ u n (by omega) (step_lt (x := c.toNat % 128) hacc (by omega)) h
        simp; omega
theorem uv_ok {l : List UInt8} {u n : Nat} (h : uv l = .ok (u, n)) : 1 ≤ n ∧ n ≤ l.length ∧ n ≤ 10 ∧ u ≤ 18446744073709551615 := by
  have := uvGo_ok l 0 0 u n (by omega) (by decide) h
  omega
theorem uvGo_er : ∀ (l : List UInt8) (k acc c : Nat), uvGo k acc l = .er c → c = 101 ∨ c = 102
  | [], k, acc, c, h => by simp [uvGo] at h; omega
  | x :: l, k, acc, c, h => by
    rw [uvGo] at h
    split at h
    · simp at h; omega
    · split at h
      · cases h
      · exact uvGo_er l _ _ c h
theorem uv_er {l : List UInt8} {c : Nat} (h : uv l = .er c) : c = 101 ∨ c = 102 := uvGo_er l 0 0 c h

theorem untag_ok' {u f k : Nat} (h : untag u = .ok (f, k)) : 1 ≤ f ∧ f ≤ 536870911 ∧ k ≤ 5 ∧ u = f * 8 + k ∧ f = u / 8 ∧ k = u % 8 := by
  unfold untag at h
  split at h
  · cases h
  · simp only [Res.ok.injEq, Prod.mk.injEq] at h
    obtain ⟨rfl, rfl⟩ := h
    omega

/-- The field and the kind of the tag that bytes begin with, and its bytes. -/
def readTag (l : List UInt8) : Res (Nat × Nat × Nat) :=
  match uv l with
  | .er c => .er c
  | .ok (u, n) => match untag u with
    | .er c => .er c
    | .ok (f, k) => .ok (f, k, n)
theorem readTag_ok {l : List UInt8} {f k n : Nat} (h : readTag l = .ok (f, k, n)) : 1 ≤ n ∧ n ≤ l.length ∧ 1 ≤ f ∧ f ≤ 536870911 ∧ k ≤ 5 := by
  unfold readTag at h
  cases hu : uv l with
  | er c => rw [hu] at h; cases h
  | ok p =>
    obtain ⟨u, m⟩ := p
    rw [hu] at h
    simp only at h
    cases ht : untag u with
    | er c => rw [ht] at h; cases h
    | ok q =>
      obtain ⟨f', k'⟩ := q
      rw [ht] at h
      simp only [Res.ok.injEq, Prod.mk.injEq] at h
      obtain ⟨rfl, rfl, rfl⟩ := h
      have h1 := uv_ok hu
      have h2 := untag_ok' ht
      omega

abbrev Body := Nat × List UInt8 × Nat
/-- A group's records, up to its end; 'at' bytes have been read. -/
def grp (bd : Nat → List UInt8 → Nat → Res Body) (field : Nat) (l : List UInt8) : Nat → Nat → Res Body
  | 0, _ => .er 101
  | fuel + 1, i =>
    match readTag (l.drop i) with
    | .er c => .er c
    | .ok (f, k, n) =>
      if k = 4 ∧ f = field then .ok (0, l.take i, i + n)
      else match bd k (l.drop (i + n)) f with
        | .er c => .er c
        | .ok (_, _, s) => grp bd field l fuel (i + n + s)

def varBody (l : List UInt8) : Res Body := match uv l with
  | .er c => .er c
  | .ok (u, n) => .ok (u, [], n)
def fixBody (k : Nat) (l : List UInt8) : Res Body := if l.length < k then .er 101 else .ok (leNum (l.take k), [], k)
def bytBody (l : List UInt8) : Res Body := match uv l with
  | .er c => .er c
  | .ok (u, n) => if l.length - n < u then .er 101 else .ok (0, (l.drop n).take u, n + u)
/-- What stands behind a tag of a kind; d groups more may stand in one another. -/
def body : Nat → Nat → List UInt8 → Nat → Res Body
  | 0, k, l, _ => if k = 0 then varBody l else if k = 1 then fixBody 8 l else if k = 2 then bytBody l else if k = 3 then .er 105 else if k = 5 then fixBody 4 l else .er 104
  | d + 1, k, l, f => if k = 0 then varBody l else if k = 1 then fixBody 8 l else if k = 2 then bytBody l else if k = 3 then grp (body d) f l (l.length + 1) 0 else if k = 5 then fixBody 4 l else .er 104
theorem body0 (d : Nat) (l : List UInt8) (f : Nat) : body d 0 l f = varBody l := by cases d <;> rfl
theorem body1 (d : Nat) (l : List UInt8) (f : Nat) : body d 1 l f = fixBody 8 l := by cases d <;> rfl
theorem body2 (d : Nat) (l : List UInt8) (f : Nat) : body d 2 l f = bytBody l := by cases d <;> rfl
theorem body3z (l : List UInt8) (f : Nat) : body 0 3 l f = .er 105 := rfl
theorem body3s (d : Nat) (l : List UInt8) (f : Nat) : body (d + 1) 3 l f = grp (body d) f l (l.length + 1) 0 := rfl
theorem body4 (d : Nat) (l : List UInt8) (f : Nat) : body d 4 l f = .er 104 := by cases d <;> rfl
theorem body5 (d : Nat) (l : List UInt8) (f : Nat) : body d 5 l f = fixBody 4 l := by cases d <;> rfl

/-- a body that is read: its bytes are there. -/
def Fits (l : List UInt8) : Res Body → Prop
  | .er _ => True
  | .ok (u, b, s) => u ≤ 18446744073709551615 ∧ b.length ≤ l.length ∧ s ≤ l.length
theorem varBody_fits (l : List UInt8) : Fits l (varBody l) := by
  unfold varBody
  cases h : uv l with
  | er c => trivial
  | ok p => obtain ⟨u, n⟩ := p; have := uv_ok h; exact ⟨by omega, by simp, by omega⟩
theorem fixBody_fits {k : Nat} (hk : k ≤ 8) (l : List UInt8) : Fits l (fixBody k l) := by
  unfold fixBody
  split
  · trivial
  · exact ⟨unfx_bound hk, by simp, by omega⟩
theorem bytBody_fits (l : List UInt8) : Fits l (bytBody l) := by
  unfold bytBody
  cases h : uv l with
  | er c => trivial
  | ok p =>
    obtain ⟨u, n⟩ := p
    have := uv_ok h
    simp only
    split
    · trivial
    · exact ⟨by omega, by simp; omega, by omega⟩
theorem grp_fits {bd : Nat → List UInt8 → Nat → Res Body} (hbd : ∀ k l f, Fits l (bd k l f)) (f : Nat) (l : List UInt8) : ∀ (fuel i : Nat), i ≤ l.length → Fits l (grp bd f l fuel i)
  | 0, _, _ => trivial
  | fuel + 1, i, hi => by
    unfold grp
    cases h : readTag (l.drop i) with
    | er c => trivial
    | ok p =>
      obtain ⟨f', k, n⟩ := p
      have hr := readTag_ok h
      rw [List.length_drop] at hr
      simp only
      split
      · exact ⟨by omega, by simp; omega, by omega⟩
      · have hb := hbd k (l.drop (i + n)) f'
        cases hd : bd k (l.drop (i + n)) f' with
        | er c => trivial
        | ok q =>
          obtain ⟨u, b, s⟩ := q
          rw [hd] at hb
          have h3 : s ≤ (l.drop (i + n)).length := hb.2.2
          rw [List.length_drop] at h3
          exact grp_fits hbd f l fuel _ (by omega)
theorem body_fits : ∀ (d k : Nat) (l : List UInt8) (f : Nat), Fits l (body d k l f)
  | 0, k, l, f => by
    unfold body
    split
    · exact varBody_fits l
    split
    · exact fixBody_fits (by omega) l
    split
    · exact bytBody_fits l
    split
    · trivial
    split
    · exact fixBody_fits (by omega) l
    · trivial
  | d + 1, k, l, f => by
    unfold body
    split
    · exact varBody_fits l
    split
    · exact fixBody_fits (by omega) l
    split
    · exact bytBody_fits l
    split
    · exact grp_fits (body_fits d) f l _ 0 (by omega)
    split
    · exact fixBody_fits (by omega) l
    · trivial

/-- P1.5: a record. -/
structure Rec where
  field : Nat
  kind : Nat
  u : Nat
  b : List UInt8
/-- The record that bytes begin with, and its bytes; d groups more may stand in one another. -/
def rec (d : Nat) (l : List UInt8) : Res (Rec × Nat) :=
  match readTag l with
  | .er c => .er c
  | .ok (f, k, n) => match body d k (l.drop n) f with
    | .er c => .er c
    | .ok (u, b, s) => .ok (⟨f, k, u, b⟩, n + s)
theorem rec_ok {d : Nat} {l : List UInt8} {r : Rec} {n : Nat} (h : rec d l = .ok (r, n)) : 1 ≤ n ∧ n ≤ l.length ∧ 1 ≤ r.field ∧ r.field ≤ 536870911 ∧ r.kind ≤ 5 ∧ r.u ≤ 18446744073709551615 ∧ r.b.length ≤ l.length := by
  unfold rec at h
  cases ht : readTag l with
  | er c => rw [ht] at h; cases h
  | ok p =>
    obtain ⟨f, k, m⟩ := p
    have hr := readTag_ok ht
    rw [ht] at h
    simp only at h
    have hb := body_fits d k (l.drop m) f
    cases hd : body d k (l.drop m) f with
    | er c => rw [hd] at h; cases h
    | ok q =>
      obtain ⟨u, b, s⟩ := q
      rw [hd] at h hb
      simp only [Res.ok.injEq, Prod.mk.injEq] at h
      obtain ⟨rfl, rfl⟩ := h
      obtain ⟨h1, h2, h3⟩ := hb
      rw [List.length_drop] at h2 h3
      exact ⟨by omega, by omega, hr.2.2.1, hr.2.2.2.1, hr.2.2.2.2, h1, by simp only; omega⟩
end Wr
end Go.Proofs.YtclnmajjkchfmaaDoor
