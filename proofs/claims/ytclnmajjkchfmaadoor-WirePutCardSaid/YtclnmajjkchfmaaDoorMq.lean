/-
  PLAIN MATHEMATICS: what is written is read back, and what is read is not written longer (P1.6, P1.10, P1.11). No program is named here.
-/
import Derived.Test.YtclnmajjkchfmaaDoorMp
namespace Go.Proofs.YtclnmajjkchfmaaDoor
namespace Wr

theorem pow7_succ (k : Nat) : 2 ^ (7 * (k + 1)) = 128 * 2 ^ (7 * k) := by
  rw [show 7 * (k + 1) = 7 + 7 * k by omega, Nat.pow_add]
theorem uvGo_varint (u k acc : Nat) (s : List UInt8) (h : u * 2 ^ (7 * k) < 18446744073709551616) (hk : k ≤ 9) :
    uvGo k acc (varint u ++ s) = .ok (acc + u * 2 ^ (7 * k), k + (varint u).length) := by
  by_cases hu : u < 128
  · rw [varint_lo hu]
    have hb : (UInt8.ofNat u).toNat = u := ofNat_toNat (by omega)
    have h9 : ¬ (k = 9 ∧ 1 < (UInt8.ofNat u).toNat) := by
      rintro ⟨rfl, h1⟩
      rw [hb] at h1
      have : 2 ^ (7 * 9) = 9223372036854775808 := by decide
      omega
    rw [List.singleton_append, uvGo_last h9 (by omega), hb]
    rfl
  · have hk8 : k ≤ 8 := by
      rcases Nat.lt_or_ge k 9 with h1 | h1
      · omega
      · obtain rfl : k = 9 := by omega
        have : 2 ^ (7 * 9) = 9223372036854775808 := by decide
        omega
    rw [varint_hi hu]
    have hb : (UInt8.ofNat (u % 128 + 128)).toNat = u % 128 + 128 := ofNat_toNat (by omega)
    have e1 : u / 128 * 2 ^ (7 * (k + 1)) + u % 128 * 2 ^ (7 * k) = u * 2 ^ (7 * k) := by
      rw [pow7_succ, ← Nat.mul_assoc, ← Nat.add_mul, Nat.div_add_mod']
    rw [List.cons_append, uvGo_more (by omega) (by omega), uvGo_varint (u / 128) (k + 1) _ s (by omega) (by omega), hb]
    rw [show (u % 128 + 128) % 128 = u % 128 by omega]
    simp only [List.length_cons, Res.ok.injEq, Prod.mk.injEq]
    exact ⟨by omega, by omega⟩
  termination_by u
  decreasing_by omega
theorem uv_varint {u : Nat} (h : u ≤ 18446744073709551615) (s : List UInt8) : uv (varint u ++ s) = .ok (u, (varint u).length) := by
  unfold uv
  rw [uvGo_varint u 0 0 s (by simp; omega) (by omega)]
  simp
theorem untag_of {f k : Nat} (h1 : 1 ≤ f) (h2 : f ≤ 536870911) (h3 : k ≤ 5) : untag (f * 8 + k) = .ok (f, k) := by
  unfold untag
  rw [if_neg (by omega), show (f * 8 + k) / 8 = f by omega, show (f * 8 + k) % 8 = k by omega]
theorem readTag_varint {f k : Nat} (h1 : 1 ≤ f) (h2 : f ≤ 536870911) (h3 : k ≤ 5) (s : List UInt8) : readTag (varint (f * 8 + k) ++ s) = .ok (f, k, (varint (f * 8 + k)).length) := by
  unfold readTag
  rw [uv_varint (by omega)]
  simp only
  rw [untag_of h1 h2 h3]

theorem leNum_fixedB : ∀ k u : Nat, leNum (fixedB k u) = u % 2 ^ (8 * k)
  | 0, u => by simp [fixedB, leNum, Nat.mod_one]
  | k + 1, u => by
    rw [fixedB, leNum_snoc, leNum_fixedB k u, fixedB_length, show 8 * (k + 1) = 8 * k + 8 by omega, Nat.pow_add, Nat.mod_mul]
    have : (UInt8.ofNat (u / 2 ^ (8 * k))).toNat = u / 2 ^ (8 * k) % 2 ^ 8 := by simp
    rw [this, Nat.mul_comm (2 ^ (8 * k)) (u / 2 ^ (8 * k) % 2 ^ 8)]
theorem take_fixedB (k u : Nat) (s : List UInt8) : (fixedB k u ++ s).take k = fixedB k u := List.take_left' (fixedB_length k u)
theorem fixBody_fixedB (k u : Nat) (s : List UInt8) : fixBody k (fixedB k u ++ s) = .ok (u % 2 ^ (8 * k), [], k) := by
  unfold fixBody
  rw [if_neg (by simp [fixedB_length]), take_fixedB, leNum_fixedB]

/-- P1.6: what stands behind the tag. -/
def putB (f k u : Nat) (l : List UInt8) : List UInt8 := if k = 0 then varint u else if k = 1 then fixedB 8 u else if k = 2 then varint l.length ++ l else if k = 3 then l ++ varint (f * 8 + 4) else fixedB 4 u
/-- P1.6: a record's bytes. -/
def put (f k u : Nat) (l : List UInt8) : List UInt8 := varint (f * 8 + k) ++ putB f k u l
/-- What is read of them. -/
def putU (k u : Nat) : Nat := if k = 0 then u else if k = 1 then u else if k = 5 then u % 4294967296 else 0
def putL (k : Nat) (l : List UInt8) : List UInt8 := if k = 2 then l else if k = 3 then l else []
/-- May it be written? -/
def PutOk (f k : Nat) (l : List UInt8) : Prop := 1 ≤ f ∧ f ≤ 536870911 ∧ k ≤ 5 ∧ k ≠ 4 ∧ (k = 3 → chk 31 l (l.length + 1) 0 = none)

theorem grp_walk (d f : Nat) (hf : 1 ≤ f ∧ f ≤ 536870911) (l s : List UInt8) : ∀ (fuel i : Nat), i ≤ l.length → (l ++ (varint (f * 8 + 4) ++ s)).length + 1 ≤ fuel + i → chk d l (l.length + 1 - i) i = none →
    grp (body d) f (l ++ (varint (f * 8 + 4) ++ s)) fuel i = .ok (0, l, l.length + (varint (f * 8 + 4)).length)
  | 0, i, hi, hf, _ => by simp at hf; omega
  | fuel + 1, i, hi, hfu, hc => by
    by_cases he : i < l.length
    · obtain ⟨r, n, hr, hn⟩ := chk_none_step he hc
      have hro := rec_ok hr
      rw [List.length_drop] at hro
      obtain ⟨m, s', h1, h2, rfl⟩ := rec_parts hr
      have hk4 : r.kind ≠ 4 := by
        intro h4
        rw [h4, body4] at h2
        cases h2
      have ht : ∀ q, q ≤ l.length - i → ((l ++ (varint (f * 8 + 4) ++ s)).drop i).take q = (l.drop i).take q := fun q hq => by
        rw [List.drop_append_of_le_length (by omega), List.take_append_of_le_length (by simp; omega)]
      have h1' := readTag_same h1 (ht m (by omega))
      have h2' := body_local d r.kind r.field _ _ _ _ h2 ((l ++ (varint (f * 8 + 4) ++ s)).drop (i + m)) (by
        have := drop_le (m := m) (n := s') (ht (m + s') (by omega)) (Nat.le_refl _)
        rw [List.drop_drop, List.drop_drop] at this
        rw [List.drop_drop]
        exact this)
      rw [grp_step h1' (by omega) h2', show i + m + s' = i + (m + s') by omega]
      exact grp_walk d f hf l s fuel _ (by omega) (by omega) hn
    · obtain rfl : i = l.length := by omega
      have h1 : readTag ((l ++ (varint (f * 8 + 4) ++ s)).drop l.length) = .ok (f, 4, (varint (f * 8 + 4)).length) := by
        rw [List.drop_left]
        exact readTag_varint hf.1 hf.2 (by omega) s
      rw [grp_done h1, List.take_left]

theorem rec_put {f k u : Nat} {l : List UInt8} (h : PutOk f k l) (hu : u ≤ 18446744073709551615) (hl : l.length ≤ 18446744073709551615) (s : List UInt8) :
    rec 32 (put f k u l ++ s) = .ok (⟨f, k, putU k u, putL k l⟩, (put f k u l).length) := by
  obtain ⟨h1, h2, h3, h4, h5⟩ := h
  unfold put
  rw [List.append_assoc, List.length_append]
  refine rec_of_parts (readTag_varint h1 h2 h3 _) ?_
  rw [List.drop_left]
  have hk : k = 0 ∨ k = 1 ∨ k = 2 ∨ k = 3 ∨ k = 5 := by omega
  rcases hk with rfl | rfl | rfl | rfl | rfl
  · rw [body0]
    unfold varBody
    rw [show putB f 0 u l = varint u from rfl, uv_varint hu]
    rfl
  · rw [body1, show putB f 1 u l = fixedB 8 u from rfl, fixBody_fixedB, fixedB_length, Nat.mod_eq_of_lt (by omega)]
    rfl
  · rw [body2]
    unfold bytBody
    rw [show putB f 2 u l = varint l.length ++ l from rfl, List.append_assoc, uv_varint hl]
    simp only
    rw [if_neg (by simp), List.drop_left, List.take_left, List.length_append]
    rfl
  · rw [body3s, show putB f 3 u l = l ++ varint (f * 8 + 4) from rfl, List.append_assoc, grp_walk 31 f ⟨h1, h2⟩ l s _ 0 (by omega) (by omega) (by rw [Nat.sub_zero]; exact h5 rfl), List.length_append]
    rfl
  · rw [body5, show putB f 5 u l = fixedB 4 u from rfl, fixBody_fixedB, fixedB_length]
    rfl
theorem check_put {f k u : Nat} {l : List UInt8} (h : PutOk f k l) (hu : u ≤ 18446744073709551615) (hl : l.length ≤ 18446744073709551615) : check (put f k u l) = none := by
  have hr := rec_put h hu hl []
  rw [List.append_nil] at hr
  have hro := rec_ok hr
  have := chk_step (i := 0) (l := put f k u l) (d := 32) (by omega) (by rw [List.drop_zero]; exact hr)
  rw [Nat.sub_zero] at this
  exact this.trans (chk_end (by omega))

/-- What is read is not written longer. -/
theorem uvGo_lt : ∀ (l : List UInt8) (k acc u n : Nat), acc < 2 ^ (7 * k) → uvGo k acc l = .ok (u, n) → u < 2 ^ (7 * n)
  | [], _, _, _, _, _, h => by simp [uvGo] at h
  | c :: l, k, acc, u, n, ha, h => by
    by_cases h1 : k = 9 ∧ 1 < c.toNat
    · rw [uvGo_long h1.1 h1.2] at h; cases h
    · by_cases h2 : c.toNat < 128
      · rw [uvGo_last h1 h2] at h
        simp only [Res.ok.injEq, Prod.mk.injEq] at h
        obtain ⟨rfl, rfl⟩ := h
        exact step_lt ha h2
      · rw [uvGo_more h1 h2] at h
        exact uvGo_lt l (k + 1) _ u n (step_lt ha (by omega)) h
theorem uv_len {l : List UInt8} {u n : Nat} (h : uv l = .ok (u, n)) : (varint u).length ≤ n :=
  varint_len n u (uvGo_lt l 0 0 u n (by decide) h) (uv_ok h).1
theorem readTag_len {l : List UInt8} {f k n : Nat} (h : readTag l = .ok (f, k, n)) : (varint (f * 8 + k)).length ≤ n := by
  unfold readTag at h
  cases hu : uv l with
  | er c => rw [hu] at h; cases h
  | ok p =>
    obtain ⟨u, m⟩ := p
    rw [hu] at h
    simp only at h
    cases ht : untag u with
    | er c => rw [ht] at h; cases h
    | ok q =>
      obtain ⟨f', k'⟩ := q
      rw [ht] at h
      simp only [Res.ok.injEq, Prod.mk.injEq] at h
      obtain ⟨rfl, rfl, rfl⟩ := h
      have := (untag_ok' ht).2.2.2.1
      rw [← this]
      exact uv_len hu

theorem grp_inner (d f : Nat) (l : List UInt8) : ∀ (fuel i u : Nat) (b : List UInt8) (s : Nat), grp (body d) f l fuel i = .ok (u, b, s) → i ≤ l.length →
    ∃ e, i ≤ e ∧ e ≤ l.length ∧ u = 0 ∧ b = l.take e ∧ readTag (l.drop e) = .ok (f, 4, s - e) ∧ e ≤ s ∧ chk d (l.take e) (e + 1 - i) i = none
  | 0, _, _, _, _, h, _ => by simp [grp] at h
  | fuel + 1, i, u, b, s, h, hi => by
    unfold grp at h
    cases hr : readTag (l.drop i) with
    | er c => rw [hr] at h; cases h
    | ok p =>
      obtain ⟨f', k, n⟩ := p
      have hb := readTag_ok hr
      rw [List.length_drop] at hb
      rw [hr] at h
      simp only at h
      by_cases hk : k = 4 ∧ f' = f
      · rw [if_pos hk] at h
        obtain ⟨rfl, rfl⟩ := hk
        simp only [Res.ok.injEq, Prod.mk.injEq] at h
        obtain ⟨rfl, rfl, rfl⟩ := h
        exact ⟨i, by omega, hi, rfl, rfl, by rw [show i + n - i = n by omega]; exact hr, by omega, chk_end (by simp; omega)⟩
      · rw [if_neg hk] at h
        have h3 := body_fits d k (l.drop (i + n)) f'
        cases hd : body d k (l.drop (i + n)) f' with
        | er c => rw [hd] at h; cases h
        | ok q =>
          obtain ⟨u', b', s'⟩ := q
          rw [hd] at h h3
          have h4 : s' ≤ (l.drop (i + n)).length := h3.2.2
          rw [List.length_drop] at h4
          obtain ⟨e, e1, e2, rfl, rfl, e5, e6, e7⟩ := grp_inner d f l fuel _ u b s h (by omega)
          refine ⟨e, by omega, e2, rfl, rfl, e5, e6, ?_⟩
          have hle : (l.take e).length = e := by simp; omega
          have hrec : rec d (l.drop i) = .ok (⟨f', k, u', b'⟩, n + s') := rec_of_parts hr (by rw [List.drop_drop]; exact hd)
          have hrec2 : rec d ((l.take e).drop i) = .ok (⟨f', k, u', b'⟩, n + s') := rec_same hrec (by rw [List.drop_take, List.take_take, Nat.min_eq_left (by omega)])
          have := chk_step (l := l.take e) (i := i) (by omega) hrec2
          rw [hle] at this
          rw [this, show i + (n + s') = i + n + s' by omega]
          exact e7

theorem rec_again {l : List UInt8} {r : Rec} {n : Nat} (h : rec 32 l = .ok (r, n)) : PutOk r.field r.kind r.b ∧ putU r.kind r.u = r.u ∧ putL r.kind r.b = r.b ∧ (put r.field r.kind r.u r.b).length ≤ n := by
  have hro := rec_ok h
  obtain ⟨m, s, h1, h2, rfl⟩ := rec_parts h
  have hm := readTag_len h1
  obtain ⟨f, k, u, b⟩ := r
  simp only at *
  unfold put
  rw [List.length_append]
  have hk : k = 0 ∨ k = 1 ∨ k = 2 ∨ k = 3 ∨ k = 4 ∨ k = 5 := by omega
  generalize l.drop m = L at h2
  rcases hk with rfl | rfl | rfl | rfl | rfl | rfl
  · rw [body0] at h2
    unfold varBody at h2
    cases hu : uv L with
    | er c => rw [hu] at h2; cases h2
    | ok p =>
      obtain ⟨u', n'⟩ := p
      rw [hu] at h2
      simp only [Res.ok.injEq, Prod.mk.injEq] at h2
      obtain ⟨rfl, rfl, rfl⟩ := h2
      have := uv_len hu
      exact ⟨⟨by omega, by omega, by omega, by omega, by omega⟩, rfl, rfl, by show _ + (varint u').length ≤ _; omega⟩
  · rw [body1] at h2
    unfold fixBody at h2
    split at h2
    · cases h2
    · simp only [Res.ok.injEq, Prod.mk.injEq] at h2
      obtain ⟨rfl, rfl, rfl⟩ := h2
      exact ⟨⟨by omega, by omega, by omega, by omega, by omega⟩, rfl, rfl, by show _ + (fixedB 8 _).length ≤ _; rw [fixedB_length]; omega⟩
  · rw [body2] at h2
    unfold bytBody at h2
    cases hu : uv L with
    | er c => rw [hu] at h2; cases h2
    | ok p =>
      obtain ⟨u', n'⟩ := p
      rw [hu] at h2
      simp only at h2
      split at h2
      · cases h2
      · simp only [Res.ok.injEq, Prod.mk.injEq] at h2
        obtain ⟨rfl, rfl, rfl⟩ := h2
        have := uv_len hu
        have hub := uv_ok hu
        have hlen : ((L.drop n').take u').length = u' := by simp; omega
        refine ⟨⟨by omega, by omega, by omega, by omega, by omega⟩, rfl, rfl, ?_⟩
        show _ + (varint ((L.drop n').take u').length ++ (L.drop n').take u').length ≤ _
        rw [List.length_append, hlen]
        omega
  · rw [body3s] at h2
    obtain ⟨e, e1, e2, rfl, rfl, e5, e6, e7⟩ := grp_inner 31 f L _ 0 u b s h2 (by omega)
    have hle : (L.take e).length = e := by simp; omega
    have := readTag_len e5
    refine ⟨⟨by omega, by omega, by omega, by omega, fun _ => ?_⟩, rfl, rfl, ?_⟩
    · rw [hle]
      exact e7
    · show _ + (L.take e ++ varint (f * 8 + 4)).length ≤ _
      rw [List.length_append, hle]
      omega
  · rw [body4] at h2; cases h2
  · rw [body5] at h2
    unfold fixBody at h2
    split at h2
    · cases h2
    · simp only [Res.ok.injEq, Prod.mk.injEq] at h2
      obtain ⟨rfl, rfl, rfl⟩ := h2
      have hlt := leNum_lt (L.take 4)
      have hlt2 : 2 ^ (8 * (L.take 4).length) ≤ 2 ^ 32 := Nat.pow_le_pow_right (by decide) (by simp; omega)
      refine ⟨⟨by omega, by omega, by omega, by omega, by omega⟩, ?_, rfl, by show _ + (fixedB 4 _).length ≤ _; rw [fixedB_length]; omega⟩
      show leNum (L.take 4) % 4294967296 = _
      exact Nat.mod_eq_of_lt (by omega)
end Wr
end Go.Proofs.YtclnmajjkchfmaaDoor
