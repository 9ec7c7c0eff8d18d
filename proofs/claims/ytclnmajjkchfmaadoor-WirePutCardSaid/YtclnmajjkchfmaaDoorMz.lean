/-
  PLAIN MATHEMATICS: how deep groups stand in one another (P1.6). No program is named here.
-/
import Derived.Test.YtclnmajjkchfmaaDoorMq
namespace Go.Proofs.YtclnmajjkchfmaaDoor
namespace Wr

theorem grp_mono {bd bd' : Nat → List UInt8 → Nat → Res Body} (hm : ∀ k l f x, bd k l f = .ok x → bd' k l f = .ok x) (f : Nat) (l : List UInt8) : ∀ (fuel i : Nat) (x : Body), grp bd f l fuel i = .ok x → grp bd' f l fuel i = .ok x
  | 0, _, _, h => by simp [grp] at h
  | fuel + 1, i, x, h => by
    rw [grp] at h ⊢
    cases hr : readTag (l.drop i) with
    | er c => rw [hr] at h; cases h
    | ok p =>
      obtain ⟨f', k, n⟩ := p
      rw [hr] at h
      simp only at h ⊢
      by_cases hk : k = 4 ∧ f' = f
      · rw [if_pos hk] at h ⊢; exact h
      · rw [if_neg hk] at h ⊢
        cases hd : bd k (l.drop (i + n)) f' with
        | er c => rw [hd] at h; cases h
        | ok q =>
          rw [hd] at h
          rw [hm _ _ _ _ hd]
          exact grp_mono hm f l fuel _ x h
theorem body_mono1 : ∀ (d k : Nat) (l : List UInt8) (f : Nat) (x : Body), body d k l f = .ok x → body (d + 1) k l f = .ok x
  | 0, k, l, f, x, h => by
    unfold body at h ⊢
    repeat' split at h
    all_goals simp_all
  | d + 1, k, l, f, x, h => by
    unfold body at h ⊢
    by_cases h3 : k = 3
    · subst h3
      simp only [Nat.reduceEqDiff, if_false, if_true] at h ⊢
      exact grp_mono (body_mono1 d) f l _ _ x h
    · repeat' split at h
      all_goals simp_all
theorem body_mono {d d' : Nat} (hd : d ≤ d') {k : Nat} {l : List UInt8} {f : Nat} {x : Body} (h : body d k l f = .ok x) : body d' k l f = .ok x := by
  obtain ⟨j, rfl⟩ : ∃ j, d' = d + j := ⟨d' - d, by omega⟩
  clear hd
  induction j with
  | zero => exact h
  | succ j ih => exact body_mono1 _ k l f x ih
theorem rec_mono {d d' : Nat} (hd : d ≤ d') {l : List UInt8} {r : Rec} {n : Nat} (h : rec d l = .ok (r, n)) : rec d' l = .ok (r, n) := by
  obtain ⟨m, s, h1, h2, rfl⟩ := rec_parts h
  exact rec_of_parts h1 (body_mono hd h2)
theorem chk_mono {d d' : Nat} (hd : d ≤ d') {l : List UInt8} : ∀ (fuel i : Nat), chk d l fuel i = none → chk d' l fuel i = none
  | 0, _, _ => rfl
  | fuel + 1, i, h => by
    rw [chk] at h ⊢
    by_cases hi : i < l.length
    · rw [if_pos hi] at h ⊢
      cases hr : rec d (l.drop i) with
      | er c => rw [hr] at h; cases h
      | ok p =>
        obtain ⟨r, n⟩ := p
        rw [hr] at h
        rw [rec_mono hd hr]
        exact chk_mono hd fuel _ h
    · rw [if_neg hi]
/-- Records that are read at two depths are the same. -/
theorem rec_alike {d d' : Nat} {l : List UInt8} {r r' : Rec} {n n' : Nat} (h : rec d l = .ok (r, n)) (h' : rec d' l = .ok (r', n')) : r = r' ∧ n = n' := by
  rcases Nat.le_total d d' with hd | hd
  · have := (rec_mono hd h).symm.trans h'
    simp at this
    exact this
  · have := h.symm.trans (rec_mono hd h')
    simp at this
    exact this
theorem grp_lower (D d f : Nat) (l : List UInt8) : ∀ (fuel i u : Nat) (b : List UInt8) (s : Nat), grp (body D) f l fuel i = .ok (u, b, s) → i ≤ l.length → chk d b (b.length + 1 - i) i = none → grp (body d) f l fuel i = .ok (u, b, s)
  | 0, _, _, _, _, h, _, _ => by simp [grp] at h
  | fuel + 1, i, u, b, s, h, hi, hc => by
    rw [grp] at h ⊢
    cases hr : readTag (l.drop i) with
    | er c => rw [hr] at h; cases h
    | ok p =>
      obtain ⟨f', k, n⟩ := p
      have hb := readTag_ok hr
      rw [List.length_drop] at hb
      rw [hr] at h
      simp only at h ⊢
      by_cases hk : k = 4 ∧ f' = f
      · rw [if_pos hk] at h ⊢; exact h
      · rw [if_neg hk] at h ⊢
        have h3 := body_fits D k (l.drop (i + n)) f'
        cases hd : body D k (l.drop (i + n)) f' with
        | er c => rw [hd] at h; cases h
        | ok q =>
          obtain ⟨u', b', s'⟩ := q
          rw [hd] at h h3
          have h4 : s' ≤ (l.drop (i + n)).length := h3.2.2
          rw [List.length_drop] at h4
          simp only at h
          obtain ⟨e, e1, e2, rfl, rfl, e5, e6, e7⟩ := grp_inner D f l fuel _ u b s h (by omega)
          have hle : (l.take e).length = e := by simp; omega
          have hrD : rec D (l.drop i) = .ok (⟨f', k, u', b'⟩, n + s') := rec_of_parts hr (by rw [List.drop_drop]; exact hd)
          obtain ⟨r2, n2, hr2, hc2⟩ := chk_none_step (by rw [hle]; omega) hc
          have hb2 := rec_ok hr2
          rw [List.length_drop, hle] at hb2
          have hrd : rec d (l.drop i) = .ok (r2, n2) := rec_same hr2 (by rw [List.drop_take, List.take_take, Nat.min_eq_left (by omega)])
          obtain ⟨rfl, rfl⟩ := rec_alike hrd hrD
          obtain ⟨m2, s2, p1, p2, p3⟩ := rec_parts hrd
          have hm2 : m2 = n := by rw [hr] at p1; simp at p1; exact p1.symm
          subst hm2
          have hs2 : s2 = s' := by omega
          subst hs2
          rw [List.drop_drop] at p2
          rw [p2]
          refine grp_lower D d f l fuel _ 0 _ s h (by omega) ?_
          rw [show i + m2 + s2 = i + (m2 + s2) by omega]
          exact hc2
/-- A group may be read at a depth if its records may be at the next. -/
theorem rec_group {D d : Nat} {l : List UInt8} {r : Rec} {n : Nat} (h : rec (D + 1) l = .ok (r, n)) (h3 : r.kind = 3) : rec (d + 1) l = .ok (r, n) ↔ chk d r.b (r.b.length + 1) 0 = none := by
  obtain ⟨m, s, p1, p2, p3⟩ := rec_parts h
  rw [h3, body3s] at p2
  constructor
  · intro hd
    obtain ⟨m', s', q1, q2, q3⟩ := rec_parts hd
    rw [h3, body3s] at q2
    obtain ⟨e, e1, e2, e3, e4, e5, e6, e7⟩ := grp_inner d _ _ _ _ _ _ _ q2 (by omega)
    rw [e4]
    have hle : ((l.drop m').take e).length = e := by rw [List.length_take]; omega
    rw [hle]
    exact e7
  · intro hc
    have := grp_lower D d _ _ _ _ _ _ _ p2 (by omega) (by simpa using hc)
    subst p3
    have hr := rec_of_parts (d := d + 1) (l := l) (f := r.field) (k := 3) (m := m) (u := r.u) (s := s) (b := r.b) (by rw [← h3]; exact p1) (by rw [body3s]; exact this)
    rw [hr]
    cases r
    simp at h3
    subst h3
    rfl
/-- What is no group may be read at any depth. -/
theorem rec_flat {D d : Nat} {l : List UInt8} {r : Rec} {n : Nat} (h : rec D l = .ok (r, n)) (h3 : r.kind ≠ 3) : rec d l = .ok (r, n) := by
  obtain ⟨m, s, p1, p2, rfl⟩ := rec_parts h
  refine rec_of_parts p1 ?_
  cases D <;> cases d <;> (unfold body at p2 ⊢; repeat' split at p2) <;> simp_all
theorem rec_zero {l : List UInt8} {r : Rec} {n : Nat} (h : rec 0 l = .ok (r, n)) : r.kind ≠ 3 := by
  intro h3
  obtain ⟨m, s, p1, p2, rfl⟩ := rec_parts h
  rw [h3, body3z] at p2
  cases p2
/-- How deep groups stand in one another, over records as they are read from place i on. -/
def dpw (inner : List UInt8 → Nat) (l : List UInt8) : Nat → Nat → Nat → Nat
  | 0, _, most => most
  | fuel + 1, i, most => if i < l.length then
      match rec 32 (l.drop i) with
      | .er _ => most
      | .ok (r, n) => dpw inner l fuel (i + n) (if r.kind = 3 then max most (inner r.b + 1) else most)
    else most
def dp : Nat → List UInt8 → Nat
  | 0, _ => 0
  | k + 1, l => dpw (dp k) l (l.length + 1) 0 0
theorem rec_short {d : Nat} {l : List UInt8} {r : Rec} {n : Nat} (h : rec d l = .ok (r, n)) : r.b.length + 1 ≤ l.length := by
  obtain ⟨m, s, p1, p2, rfl⟩ := rec_parts h
  have h1 := readTag_ok p1
  have h2 := body_fits d r.kind (l.drop m) r.field
  rw [p2] at h2
  have h3 := h2.2.1
  rw [List.length_drop] at h3
  omega
theorem dpw_le {k d : Nat} {l : List UInt8} (hk : ∀ b : List UInt8, b.length + 1 ≤ l.length → chk 32 b (b.length + 1) 0 = none → ∀ d', dp k b ≤ d' ↔ chk d' b (b.length + 1) 0 = none) : ∀ (fuel i most : Nat), l.length + 1 ≤ fuel + i → i ≤ l.length → chk 32 l (l.length + 1 - i) i = none →
    (dpw (dp k) l fuel i most ≤ d ↔ most ≤ d ∧ chk d l (l.length + 1 - i) i = none)
  | 0, i, most, hf, hi, _ => by omega
  | fuel + 1, i, most, hf, hi, hc => by
    rw [dpw]
    by_cases hlt : i < l.length
    · rw [if_pos hlt]
      obtain ⟨r, n, hr, hc2⟩ := chk_none_step hlt hc
      have hb := rec_ok hr
      have hsh := rec_short hr
      rw [List.length_drop] at hb hsh
      rw [hr]
      simp only
      rw [dpw_le hk fuel (i + n) _ (by omega) (by omega) hc2]
      have hstep : chk d l (l.length + 1 - i) i = none ↔ rec d (l.drop i) = .ok (r, n) ∧ chk d l (l.length + 1 - (i + n)) (i + n) = none := by
        constructor
        · intro h
          obtain ⟨r2, n2, h2, h3⟩ := chk_none_step hlt h
          obtain ⟨rfl, rfl⟩ := rec_alike h2 hr
          exact ⟨h2, h3⟩
        · rintro ⟨h2, h3⟩
          rw [chk_step hlt h2]
          exact h3
      rw [hstep]
      by_cases h3 : r.kind = 3
      · rw [if_pos h3]
        have hc31 := (rec_group (D := 31) (d := 31) hr h3).1 hr
        have hb32 := chk_mono (show 31 ≤ 32 by omega) _ _ hc31
        have key : dp k r.b + 1 ≤ d ↔ rec d (l.drop i) = .ok (r, n) := by
          cases d with
          | zero =>
            constructor
            · intro h; omega
            · intro h; exact absurd h3 (rec_zero h)
          | succ d' =>
            rw [rec_group (D := 31) (d := d') hr h3, ← hk r.b (by omega) hb32 d']
            omega
        rw [← key, Nat.max_le, and_assoc]
      · rw [if_neg h3]
        have := rec_flat (d := d) hr h3
        simp [this]
    · rw [if_neg hlt, chk_end hlt]
      simp
theorem dp_le : ∀ (k : Nat) (l : List UInt8), l.length ≤ k → chk 32 l (l.length + 1) 0 = none → ∀ d, dp k l ≤ d ↔ chk d l (l.length + 1) 0 = none
  | 0, l, hl, _, d => by
    rw [dp, chk_end (by omega)]
    simp
  | k + 1, l, hl, hc, d => by
    rw [dp, dpw_le (fun b hb hcb d' => dp_le k b (by omega) hcb d') (l.length + 1) 0 0 (by omega) (by omega) (by simpa using hc)]
    simp
theorem dpw_bound {inner : List UInt8 → Nat} {c : Nat} (hin : ∀ b, inner b ≤ c) (l : List UInt8) : ∀ (fuel i most : Nat), most ≤ c + 1 → dpw inner l fuel i most ≤ c + 1
  | 0, _, most, h => h
  | fuel + 1, i, most, h => by
    rw [dpw]
    split
    · cases rec 32 (l.drop i) with
      | er x => exact h
      | ok p =>
        obtain ⟨r, n⟩ := p
        simp only
        apply dpw_bound hin l fuel
        have := hin r.b
        split <;> omega
    · exact h
theorem dp_bound : ∀ (k : Nat) (l : List UInt8), dp k l ≤ k
  | 0, l => Nat.le_refl _
  | k + 1, l => by rw [dp]; exact dpw_bound (dp_bound k) l _ _ _ (by omega)
end Wr
end Go.Proofs.YtclnmajjkchfmaaDoor
