/-
  PLAIN MATHEMATICS: groups in one another (P1.5, WireDeep). No program is named here.
-/
import Derived.Test.YtclnmajjkchfmaaDoorMc
namespace Go.Proofs.YtclnmajjkchfmaaDoor
namespace Wr

/-- n groups around t. -/
def nest (n : Nat) (t : List UInt8) : List UInt8 := List.replicate n 11 ++ (t ++ List.replicate n 12)
theorem nest_succ (n : Nat) (t s : List UInt8) : nest (n + 1) t ++ s = 11 :: (nest n t ++ (12 :: s)) := by
  have h : List.replicate (n + 1) (12 : UInt8) = List.replicate n 12 ++ [12] := List.replicate_succ'
  unfold nest
  rw [List.replicate_succ, h]
  simp
theorem readTag11 (s : List UInt8) : readTag (11 :: s) = .ok (1, 3, 1) := by
  have h : uv (11 :: s) = .ok (11, 1) := by
    unfold uv
    rw [uvGo_last (by decide) (by decide)]
    rfl
  unfold readTag
  rw [h]
  rfl
theorem readTag12 (s : List UInt8) : readTag (12 :: s) = .ok (1, 4, 1) := by
  have h : uv (12 :: s) = .ok (12, 1) := by
    unfold uv
    rw [uvGo_last (by decide) (by decide)]
    rfl
  unfold readTag
  rw [h]
  rfl
theorem readTag16 (s : List UInt8) : readTag (16 :: s) = .ok (2, 0, 1) := by
  have h : uv (16 :: s) = .ok (16, 1) := by
    unfold uv
    rw [uvGo_last (by decide) (by decide)]
    rfl
  unfold readTag
  rw [h]
  rfl
theorem varBody5 (s : List UInt8) : varBody (5 :: s) = .ok (5, [], 1) := by
  have h : uv (5 :: s) = .ok (5, 1) := by
    unfold uv
    rw [uvGo_last (by decide) (by decide)]
    rfl
  unfold varBody
  rw [h]

/-- What may stand in the middle. -/
def Mid (t : List UInt8) : Prop := t = [] ∨ t = [16, 5]
theorem grp_step {bd : Nat → List UInt8 → Nat → Res Body} {f : Nat} {l : List UInt8} {fuel i : Nat} {f' k m : Nat} (h : readTag (l.drop i) = .ok (f', k, m)) (hne : ¬ (k = 4 ∧ f' = f)) {u : Nat} {b : List UInt8} {s : Nat} (hb : bd k (l.drop (i + m)) f' = .ok (u, b, s)) :
    grp bd f l (fuel + 1) i = grp bd f l fuel (i + m + s) := by
  rw [grp, h]
  show (if k = 4 ∧ f' = f then _ else _) = _
  rw [if_neg hne, hb]
theorem grp_bad {bd : Nat → List UInt8 → Nat → Res Body} {f : Nat} {l : List UInt8} {fuel i : Nat} {f' k m : Nat} (h : readTag (l.drop i) = .ok (f', k, m)) (hne : ¬ (k = 4 ∧ f' = f)) {c : Nat} (hb : bd k (l.drop (i + m)) f' = .er c) :
    grp bd f l (fuel + 1) i = .er c := by
  rw [grp, h]
  show (if k = 4 ∧ f' = f then _ else _) = _
  rw [if_neg hne, hb]
theorem grp_done {bd : Nat → List UInt8 → Nat → Res Body} {f : Nat} {l : List UInt8} {fuel i : Nat} {m : Nat} (h : readTag (l.drop i) = .ok (f, 4, m)) :
    grp bd f l (fuel + 1) i = .ok (0, l.take i, i + m) := by
  rw [grp, h]
  show (if 4 = 4 ∧ f = f then _ else _) = _
  rw [if_pos ⟨rfl, rfl⟩]
theorem nest_length (n : Nat) (t : List UInt8) : (nest n t).length = 2 * n + t.length := by simp [nest]; omega

/-- A group of depth n is read where n more may stand in one another, and one more. -/
theorem body_nest {t : List UInt8} (ht : Mid t) : ∀ (n d : Nat) (s : List UInt8), n ≤ d → ∃ u b, body (d + 1) 3 (nest n t ++ (12 :: s)) 1 = .ok (u, b, (nest n t).length + 1)
  | 0, d, s, _ => by
    rw [body3s]
    rcases ht with rfl | rfl
    · have h0 := grp_done (bd := body d) (f := 1) (l := nest 0 [] ++ (12 :: s)) (fuel := (nest 0 [] ++ (12 :: s)).length) (i := 0) (m := 1) (readTag12 s)
      exact ⟨_, _, h0⟩
    · have h1 : body d 0 ((([16, 5] : List UInt8) ++ (12 :: s)).drop (0 + 1)) 2 = .ok (5, [], 1) := by rw [body0]; exact varBody5 _
      have h2 := grp_step (bd := body d) (f := 1) (l := nest 0 [16, 5] ++ (12 :: s)) (fuel := (nest 0 [16, 5] ++ (12 :: s)).length) (i := 0) (readTag16 (5 :: 12 :: s)) (by omega) h1
      have h3 := grp_done (bd := body d) (f := 1) (l := nest 0 [16, 5] ++ (12 :: s)) (fuel := s.length + 2) (i := 0 + 1 + 1) (m := 1) (readTag12 s)
      exact ⟨_, _, h2.trans h3⟩
  | n + 1, d, s, h => by
    obtain ⟨e, rfl⟩ : ∃ e, d = e + 1 := ⟨d - 1, by omega⟩
    obtain ⟨u, b, hb⟩ := body_nest ht n e (12 :: s) (by omega)
    rw [body3s, nest_succ]
    generalize hL : (11 :: (nest n t ++ (12 :: (12 :: s))) : List UInt8) = L
    have hd1 : L.drop 1 = nest n t ++ (12 :: (12 :: s)) := by rw [← hL]; rfl
    have ht0 : readTag (L.drop 0) = .ok (1, 3, 1) := by rw [← hL]; exact readTag11 _
    have hlen : L.length = (nest n t).length + 3 + s.length := by rw [← hL]; simp; omega
    have hd2 : L.drop (0 + 1 + ((nest n t).length + 1)) = 12 :: s := by
      rw [← hL]
      rw [show 0 + 1 + ((nest n t).length + 1) = ((nest n t).length + 1) + 1 by omega, List.drop_succ_cons]
      rw [show nest n t ++ (12 :: (12 :: s)) = (nest n t ++ [12]) ++ (12 :: s) by simp]
      exact List.drop_left' (by simp)
    rw [show L.length + 1 = (L.length - 1) + 1 + 1 by omega]
    have h2 := grp_step (bd := body (e + 1)) (f := 1) (fuel := L.length - 1 + 1) ht0 (by omega) (u := u) (b := b) (s := (nest n t).length + 1) (by rw [hd1]; exact hb)
    have h3 := grp_done (bd := body (e + 1)) (f := 1) (fuel := L.length - 1) (i := 0 + 1 + ((nest n t).length + 1)) (m := 1) (by rw [hd2]; exact readTag12 s)
    refine ⟨0, L.take (0 + 1 + ((nest n t).length + 1)), ?_⟩
    rw [h2, h3, nest_length, nest_length]
    congr 3
    omega
/-- One more is not. -/
theorem body_deep : ∀ (d : Nat) (s : List UInt8), body d 3 (List.replicate d 11 ++ s) 1 = .er 105
  | 0, s => rfl
  | d + 1, s => by
    rw [body3s, List.replicate_succ]
    exact grp_bad (i := 0) (readTag11 _) (by omega) (body_deep d s)

theorem check_nest {t : List UInt8} (ht : Mid t) (n : Nat) (hn : n ≤ 32) : check (nest n t) = none := by
  unfold check
  cases n with
  | zero =>
    rcases ht with rfl | rfl
    · rfl
    · have hr : rec 32 (([16, 5] : List UInt8).drop 0) = .ok (⟨2, 0, 5, []⟩, 2) := by
        unfold rec
        rw [show readTag (([16, 5] : List UInt8).drop 0) = .ok (2, 0, 1) from readTag16 [5]]
        simp only
        rw [body0, show varBody (([16, 5] : List UInt8).drop 0 |>.drop 1) = .ok (5, [], 1) from varBody5 []]
      show chk 32 [16, 5] 3 0 = none
      rw [chk, if_pos (by decide), hr]
      exact chk_end (by decide)
  | succ n =>
    obtain ⟨u, b, hb⟩ := body_nest ht n 31 [] (by omega)
    have hns := nest_succ n t []
    rw [List.append_nil] at hns
    have hlen := nest_length (n + 1) t
    have hln := nest_length n t
    have hr : rec 32 ((nest (n + 1) t).drop 0) = .ok (⟨1, 3, u, b⟩, 1 + ((nest n t).length + 1)) := by
      unfold rec
      rw [List.drop_zero, hns, readTag11]
      simp only [List.drop_succ_cons, List.drop_zero]
      rw [hb]
    rw [chk, if_pos (by omega), hr]
    exact chk_end (by omega)
theorem rec_deep (n : Nat) (hn : 32 < n) (t : List UInt8) : rec 32 (nest n t) = .er 105 := by
  obtain ⟨k, rfl⟩ : ∃ k, n = 32 + 1 + k := ⟨n - 33, by omega⟩
  have e : nest (32 + 1 + k) t = 11 :: (List.replicate 32 11 ++ (List.replicate k 11 ++ (t ++ List.replicate (32 + 1 + k) 12))) := by
    unfold nest
    rw [show 32 + 1 + k = (32 + k) + 1 by omega, List.replicate_succ, ← List.replicate_append_replicate]
    simp
  rw [e]
  unfold rec
  rw [readTag11]
  simp only [List.drop_succ_cons, List.drop_zero]
  rw [body_deep]
theorem check_deep (n : Nat) (hn : 32 < n) (t : List UInt8) : check (nest n t) = some (0, 105) := by
  have hlen := nest_length n t
  unfold check
  rw [chk, if_pos (by omega), List.drop_zero, rec_deep n hn t]
end Wr
end Go.Proofs.YtclnmajjkchfmaaDoor
