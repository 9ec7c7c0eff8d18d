/-
  PLAIN MATHEMATICS: a record is read of its own bytes alone; what is written is read back (P1.6, P1.10, P1.11). No program is named here.
-/
import Derived.Test.YtclnmajjkchfmaaDoorMd
namespace Go.Proofs.YtclnmajjkchfmaaDoor
namespace Wr

theorem take_le {l l' : List UInt8} {s m : Nat} (h : l'.take s = l.take s) (hm : m ≤ s) : l'.take m = l.take m := by
  have := congrArg (List.take m) h
  rwa [List.take_take, List.take_take, Nat.min_eq_left hm] at this
theorem drop_le {l l' : List UInt8} {s m n : Nat} (h : l'.take s = l.take s) (hm : m + n ≤ s) : (l'.drop m).take n = (l.drop m).take n := by
  have := congrArg (List.drop m) (take_le h hm)
  rw [List.drop_take, List.drop_take, show m + n - m = n by omega] at this
  exact this
theorem len_le {l l' : List UInt8} {s : Nat} (h : l'.take s = l.take s) (hs : s ≤ l.length) : s ≤ l'.length := by
  have := congrArg List.length h
  rw [List.length_take, List.length_take] at this
  omega

theorem uvGo_same : ∀ (l l' : List UInt8) (k acc u n : Nat), uvGo k acc l = .ok (u, n) → l'.take (n - k) = l.take (n - k) → k + 1 ≤ n → uvGo k acc l' = .ok (u, n)
  | [], _, _, _, _, _, h, _, _ => by simp [uvGo] at h
  | c :: l, l', k, acc, u, n, h, ht, hn => by
    obtain ⟨m, rfl⟩ : ∃ m, n = k + 1 + m := ⟨n - (k + 1), by omega⟩
    rw [show k + 1 + m - k = m + 1 by omega, List.take_succ_cons] at ht
    cases l' with
    | nil => simp at ht
    | cons c' l' =>
      rw [List.take_succ_cons] at ht
      obtain ⟨rfl, ht'⟩ := List.cons.inj ht
      by_cases h1 : k = 9 ∧ 1 < c'.toNat
      · rw [uvGo_long h1.1 h1.2] at h; cases h
      · by_cases h2 : c'.toNat < 128
        · rw [uvGo_last h1 h2] at h ⊢; exact h
        · rw [uvGo_more h1 h2] at h ⊢
          have hm : k + 2 ≤ k + 1 + m := by
            rcases Nat.lt_or_ge (k + 1) 10 with hk | hk
            · cases m with
              | zero =>
                exfalso
                cases l with
                | nil => simp [uvGo] at h
                | cons d l =>
                  have := uvGo_n (d :: l) (k + 1) _ _ _ h
                  omega
              | succ m => omega
            · have := uvGo_n l (k + 1) _ _ _ h
              omega
          exact uvGo_same l l' (k + 1) _ u _ h (by rw [show k + 1 + m - (k + 1) = m by omega]; exact ht') hm
where
  uvGo_n : ∀ (l : List UInt8) (k acc u n : Nat), uvGo k acc l = .ok (u, n) → k + 1 ≤ n
    | [], _, _, _, _, h => by simp [uvGo] at h
    | c :: l, k, acc, u, n, h => by
      by_cases h1 : k = 9 ∧ 1 < c.toNat
      · rw [uvGo_long h1.1 h1.2] at h; cases h
      · by_cases h2 : c.toNat < 128
        · rw [uvGo_last h1 h2] at h
          simp only [Res.ok.injEq, Prod.mk.injEq] at h
          omega
        · rw [uvGo_more h1 h2] at h
          have := uvGo_n l (k + 1) _ u n h
          omega
theorem uv_same {l l' : List UInt8} {u n : Nat} (h : uv l = .ok (u, n)) (ht : l'.take n = l.take n) : uv l' = .ok (u, n) :=
  uvGo_same l l' 0 0 u n h (by simpa using ht) (by have := uv_ok h; omega)
theorem readTag_same {l l' : List UInt8} {f k n : Nat} (h : readTag l = .ok (f, k, n)) (ht : l'.take n = l.take n) : readTag l' = .ok (f, k, n) := by
  unfold readTag at h ⊢
  cases hu : uv l with
  | er c => rw [hu] at h; cases h
  | ok p =>
    obtain ⟨u, m⟩ := p
    rw [hu] at h
    simp only at h
    cases ht2 : untag u with
    | er c => rw [ht2] at h; cases h
    | ok q =>
      obtain ⟨f', k'⟩ := q
      rw [ht2] at h
      simp only [Res.ok.injEq, Prod.mk.injEq] at h
      obtain ⟨rfl, rfl, rfl⟩ := h
      rw [uv_same hu ht]
      simp only
      rw [ht2]

/-- What is read is read of its own bytes alone. -/
def Local (F : List UInt8 → Res Body) : Prop := ∀ l u b s, F l = .ok (u, b, s) → ∀ l' : List UInt8, l'.take s = l.take s → F l' = .ok (u, b, s)
theorem varBody_local : Local varBody := by
  intro l u b s h l' ht
  unfold varBody at h ⊢
  cases hu : uv l with
  | er c => rw [hu] at h; cases h
  | ok p =>
    obtain ⟨u', n⟩ := p
    rw [hu] at h
    simp only [Res.ok.injEq, Prod.mk.injEq] at h
    obtain ⟨rfl, rfl, rfl⟩ := h
    rw [uv_same hu ht]
theorem fixBody_local (k : Nat) : Local (fixBody k) := by
  intro l u b s h l' ht
  unfold fixBody at h ⊢
  by_cases hk : l.length < k
  · rw [if_pos hk] at h; cases h
  · rw [if_neg hk] at h
    simp only [Res.ok.injEq, Prod.mk.injEq] at h
    obtain ⟨rfl, rfl, rfl⟩ := h
    have := len_le ht (by omega)
    rw [if_neg (by omega), ht]
theorem bytBody_local : Local bytBody := by
  intro l u b s h l' ht
  unfold bytBody at h ⊢
  cases hu : uv l with
  | er c => rw [hu] at h; cases h
  | ok p =>
    obtain ⟨u', n⟩ := p
    have hb := uv_ok hu
    rw [hu] at h
    simp only at h
    by_cases hk : l.length - n < u'
    · rw [if_pos hk] at h; cases h
    · rw [if_neg hk] at h
      simp only [Res.ok.injEq, Prod.mk.injEq] at h
      obtain ⟨rfl, rfl, rfl⟩ := h
      have hl := len_le ht (by omega)
      rw [uv_same hu (take_le ht (by omega))]
      simp only
      rw [if_neg (by omega), drop_le ht (Nat.le_refl _)]

theorem grp_bound {bd : Nat → List UInt8 → Nat → Res Body} (hfit : ∀ k l f, Fits l (bd k l f)) (f : Nat) (l : List UInt8) : ∀ (fuel i u : Nat) (b : List UInt8) (s : Nat), grp bd f l fuel i = .ok (u, b, s) → i ≤ l.length → i + 1 ≤ s ∧ s ≤ l.length
  | 0, _, _, _, _, h, _ => by simp [grp] at h
  | fuel + 1, i, u, b, s, h, hi => by
    unfold grp at h
    cases hr : readTag (l.drop i) with
    | er c => rw [hr] at h; cases h
    | ok p =>
      obtain ⟨f', k, n⟩ := p
      have hb := readTag_ok hr
      rw [List.length_drop] at hb
      rw [hr] at h
      simp only at h
      by_cases hk : k = 4 ∧ f' = f
      · rw [if_pos hk] at h
        simp only [Res.ok.injEq, Prod.mk.injEq] at h
        omega
      · rw [if_neg hk] at h
        have h3 := hfit k (l.drop (i + n)) f'
        cases hd : bd k (l.drop (i + n)) f' with
        | er c => rw [hd] at h; cases h
        | ok q =>
          obtain ⟨u', b', s'⟩ := q
          rw [hd] at h h3
          have h4 : s' ≤ (l.drop (i + n)).length := h3.2.2
          rw [List.length_drop] at h4
          have := grp_bound hfit f l fuel _ u b s h (by omega)
          omega
theorem grp_local {bd : Nat → List UInt8 → Nat → Res Body} (hfit : ∀ k l f, Fits l (bd k l f)) (hloc : ∀ k f, Local fun l => bd k l f) (f : Nat) (l : List UInt8) : ∀ (fuel i u : Nat) (b : List UInt8) (s : Nat), grp bd f l fuel i = .ok (u, b, s) → i ≤ l.length →
    ∀ (l' : List UInt8) (fuel' : Nat), l'.take s = l.take s → l'.length + 1 ≤ fuel' + i → grp bd f l' fuel' i = .ok (u, b, s)
  | 0, _, _, _, _, h, _, _, _, _, _ => by simp [grp] at h
  | fuel + 1, i, u, b, s, h, hi, l', fuel', ht, hf => by
    have hbd := grp_bound hfit f l _ _ _ _ _ h hi
    have hl' := len_le ht hbd.2
    obtain ⟨fuel', rfl⟩ : ∃ x, fuel' = x + 1 := ⟨fuel' - 1, by omega⟩
    unfold grp at h ⊢
    cases hr : readTag (l.drop i) with
    | er c => rw [hr] at h; cases h
    | ok p =>
      obtain ⟨f', k, n⟩ := p
      have hb := readTag_ok hr
      rw [List.length_drop] at hb
      rw [hr] at h
      simp only at h
      by_cases hk : k = 4 ∧ f' = f
      · rw [if_pos hk] at h
        simp only [Res.ok.injEq, Prod.mk.injEq] at h
        obtain ⟨rfl, rfl, rfl⟩ := h
        rw [readTag_same hr (drop_le ht (Nat.le_refl _))]
        simp only
        rw [if_pos hk, take_le ht (by omega)]
      · rw [if_neg hk] at h
        have h3 := hfit k (l.drop (i + n)) f'
        cases hd : bd k (l.drop (i + n)) f' with
        | er c => rw [hd] at h; cases h
        | ok q =>
          obtain ⟨u', b', s'⟩ := q
          rw [hd] at h h3
          have h4 : s' ≤ (l.drop (i + n)).length := h3.2.2
          rw [List.length_drop] at h4
          have hb2 := grp_bound hfit f l fuel _ u b s h (by omega)
          rw [readTag_same hr (drop_le ht (by omega))]
          simp only
          rw [if_neg hk, show bd k (l'.drop (i + n)) f' = .ok (u', b', s') from hloc k f' _ _ _ _ hd (l'.drop (i + n)) (drop_le ht (by omega))]
          exact grp_local hfit hloc f l fuel _ u b s h (by omega) l' fuel' ht (by omega)
theorem body_local : ∀ (d k f : Nat), Local fun l => body d k l f
  | 0, k, f => by
    intro l u b s h l' ht
    simp only [body] at h ⊢
    by_cases h0 : k = 0
    · rw [if_pos h0] at h ⊢
      exact varBody_local l u b s h l' ht
    rw [if_neg h0] at h ⊢
    by_cases h1 : k = 1
    · rw [if_pos h1] at h ⊢
      exact fixBody_local 8 l u b s h l' ht
    rw [if_neg h1] at h ⊢
    by_cases h2 : k = 2
    · rw [if_pos h2] at h ⊢
      exact bytBody_local l u b s h l' ht
    rw [if_neg h2] at h ⊢
    by_cases h3 : k = 3
    · rw [if_pos h3] at h ⊢
      cases h
    rw [if_neg h3] at h ⊢
    by_cases h5 : k = 5
    · rw [if_pos h5] at h ⊢
      exact fixBody_local 4 l u b s h l' ht
    · rw [if_neg h5] at h
      cases h
  | d + 1, k, f => by
    intro l u b s h l' ht
    simp only [body] at h ⊢
    by_cases h0 : k = 0
    · rw [if_pos h0] at h ⊢
      exact varBody_local l u b s h l' ht
    rw [if_neg h0] at h ⊢
    by_cases h1 : k = 1
    · rw [if_pos h1] at h ⊢
      exact fixBody_local 8 l u b s h l' ht
    rw [if_neg h1] at h ⊢
    by_cases h2 : k = 2
    · rw [if_pos h2] at h ⊢
      exact bytBody_local l u b s h l' ht
    rw [if_neg h2] at h ⊢
    by_cases h3 : k = 3
    · rw [if_pos h3] at h ⊢
      exact grp_local (body_fits d) (body_local d) f l _ 0 u b s h (Nat.zero_le _) l' _ ht (Nat.le_refl _)
    rw [if_neg h3] at h ⊢
    by_cases h5 : k = 5
    · rw [if_pos h5] at h ⊢
      exact fixBody_local 4 l u b s h l' ht
    · rw [if_neg h5] at h
      cases h

/-- The parts of a record that is read. -/
theorem rec_parts {d : Nat} {l : List UInt8} {r : Rec} {n : Nat} (h : rec d l = .ok (r, n)) : ∃ m s, readTag l = .ok (r.field, r.kind, m) ∧ body d r.kind (l.drop m) r.field = .ok (r.u, r.b, s) ∧ n = m + s := by
  unfold rec at h
  cases ht : readTag l with
  | er c => rw [ht] at h; cases h
  | ok p =>
    obtain ⟨f, k, m⟩ := p
    rw [ht] at h
    simp only at h
    cases hd : body d k (l.drop m) f with
    | er c => rw [hd] at h; cases h
    | ok q =>
      obtain ⟨u, b, s⟩ := q
      rw [hd] at h
      simp only [Res.ok.injEq, Prod.mk.injEq] at h
      obtain ⟨rfl, rfl⟩ := h
      exact ⟨m, s, rfl, hd, rfl⟩
theorem rec_of_parts {d : Nat} {l : List UInt8} {f k m u s : Nat} {b : List UInt8} (h1 : readTag l = .ok (f, k, m)) (h2 : body d k (l.drop m) f = .ok (u, b, s)) : rec d l = .ok (⟨f, k, u, b⟩, m + s) := by
  unfold rec
  rw [h1]
  simp only
  rw [h2]
theorem rec_same {d : Nat} {l l' : List UInt8} {r : Rec} {n : Nat} (h : rec d l = .ok (r, n)) (ht : l'.take n = l.take n) : rec d l' = .ok (r, n) := by
  obtain ⟨m, s, h1, h2, rfl⟩ := rec_parts h
  exact rec_of_parts (readTag_same h1 (take_le ht (by omega))) (body_local d r.kind r.field _ _ _ _ h2 _ (drop_le ht (Nat.le_refl _)))

theorem chk_fuel {d : Nat} {l : List UInt8} : ∀ (fuel fuel' i : Nat), l.length + 1 ≤ fuel + i → l.length + 1 ≤ fuel' + i → chk d l fuel i = chk d l fuel' i
  | 0, fuel', i, h, _ => by rw [chk_end (by omega), chk_end (by omega)]
  | fuel + 1, 0, i, _, h => by rw [chk_end (by omega), chk_end (by omega)]
  | fuel + 1, fuel' + 1, i, h, h' => by
    rw [chk, chk]
    by_cases hi : i < l.length
    · rw [if_pos hi, if_pos hi]
      cases hr : rec d (l.drop i) with
      | er c => rfl
      | ok p =>
        obtain ⟨r, n⟩ := p
        have := rec_ok hr
        exact chk_fuel fuel fuel' (i + n) (by omega) (by omega)
    · rw [if_neg hi, if_neg hi]
theorem chk_none_step {d : Nat} {l : List UInt8} {i : Nat} (hi : i < l.length) (h : chk d l (l.length + 1 - i) i = none) : ∃ r n, rec d (l.drop i) = .ok (r, n) ∧ chk d l (l.length + 1 - (i + n)) (i + n) = none := by
  rw [show l.length + 1 - i = (l.length - i) + 1 by omega, chk, if_pos hi] at h
  cases hr : rec d (l.drop i) with
  | er c => rw [hr] at h; cases h
  | ok p =>
    obtain ⟨r, n⟩ := p
    have hb := rec_ok hr
    rw [List.length_drop] at hb
    rw [hr] at h
    simp only at h
    exact ⟨r, n, rfl, (chk_fuel _ _ _ (by omega) (by omega)).trans h⟩
theorem chk_step {d : Nat} {l : List UInt8} {i : Nat} {r : Rec} {n : Nat} (hi : i < l.length) (hr : rec d (l.drop i) = .ok (r, n)) : chk d l (l.length + 1 - i) i = chk d l (l.length + 1 - (i + n)) (i + n) := by
  have hb := rec_ok hr
  rw [List.length_drop] at hb
  rw [show l.length + 1 - i = (l.length - i) + 1 by omega, chk, if_pos hi, hr]
  exact chk_fuel _ _ _ (by omega) (by omega)

/-- Records behind records are records. -/
theorem chk_join {d : Nat} (a b : List UInt8) (hb : chk d b (b.length + 1) 0 = none) : ∀ (m i : Nat), i ≤ a.length → a.length - i ≤ m → chk d a (a.length + 1 - i) i = none → chk d (a ++ b) ((a ++ b).length + 1 - i) i = none
  | m, i, hi, hm, h => by
    by_cases he : i < a.length
    · obtain ⟨r, n, hr, hn⟩ := chk_none_step he h
      have hro := rec_ok hr
      rw [List.length_drop] at hro
      have hr2 : rec d ((a ++ b).drop i) = .ok (r, n) := rec_same hr (by rw [List.drop_append_of_le_length (by omega), List.take_append_of_le_length (by simp; omega)])
      rw [chk_step (by simp; omega) hr2]
      obtain ⟨m, rfl⟩ : ∃ x, m = x + 1 := ⟨m - 1, by omega⟩
      exact chk_join a b hb m (i + n) (by omega) (by omega) hn
    · have : ∀ (q j : Nat), b.length - j ≤ q → chk d b (b.length + 1 - j) j = none → chk d (a ++ b) ((a ++ b).length + 1 - (a.length + j)) (a.length + j) = none := by
        intro q
        induction q with
        | zero => intro j hj _; exact chk_end (by simp; omega)
        | succ q ih =>
          intro j hj hc
          by_cases hj2 : j < b.length
          · obtain ⟨r, n, hr, hn⟩ := chk_none_step hj2 hc
            have hro := rec_ok hr
            have hr2 : rec d ((a ++ b).drop (a.length + j)) = .ok (r, n) := by rw [List.drop_append]; simpa [Nat.add_sub_cancel_left, List.drop_eq_nil_of_le] using hr
            rw [chk_step (by simp; omega) hr2, Nat.add_assoc]
            exact ih (j + n) (by omega) hn
          · exact chk_end (by simp; omega)
      obtain rfl : i = a.length := by omega
      have h2 := this b.length 0 (by omega) (by simpa using hb)
      simpa using h2
  termination_by m => m
  decreasing_by omega
theorem check_join {a b : List UInt8} (ha : check a = none) (hb : check b = none) : check (a ++ b) = none := by
  have := chk_join a b hb a.length 0 (by omega) (by omega) (by rw [Nat.sub_zero]; exact ha)
  rw [Nat.sub_zero] at this
  exact this
end Wr
end Go.Proofs.YtclnmajjkchfmaaDoor
