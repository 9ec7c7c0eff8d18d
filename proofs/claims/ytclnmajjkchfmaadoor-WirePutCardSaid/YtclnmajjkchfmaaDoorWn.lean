/-
  CONTRACTS: the document's closed, next, group, Next.
-/
import Derived.Test.YtclnmajjkchfmaaDoorF
namespace Go.Proofs.YtclnmajjkchfmaaDoor
open Go.RowKit Wr

abbrev zeroRV : Value := .agg #[.int .i64 0, .int .i64 0, .int .u64 0, .slice none 0 0]
abbrev recV (f k u : Int) (a : Option Addr) (m c : Nat) : Value := .agg #[.int .i64 f, .int .i64 k, .int .u64 u, .slice a m c]
/-- What the document's next answers. -/
def NxPost (r : Res (Rec × Nat)) (w : World) (e : Ending) (w' : World) : Prop :=
  Below w.heap.size w w' ∧ match r with
    | .ok (r, n) => ∃ a m c, e = .returned (.tuple #[recV (r.field : Int) (r.kind : Int) (r.u : Int) a m c, .int .i64 (n : Int), .int .i64 0]) ∧ Own w' w.heap.size (.slice a m c) r.b
    | .er k => e = .returned (.tuple #[zeroRV, .int .i64 0, .int .i64 (k : Int)])
/-- What the document's group answers; f: the field; i bytes stood ahead. -/
def GxPost (f i : Nat) (r : Res Body) (w : World) (e : Ending) (w' : World) : Prop :=
  Below w.heap.size w w' ∧ match r with
    | .ok (_, b, s) => ∃ a m c, e = .returned (.tuple #[recV (f : Int) 3 0 a m c, .int .i64 ((i + s : Nat) : Int), .int .i64 0]) ∧ Own w' w.heap.size (.slice a m c) b
    | .er k => e = .returned (.tuple #[zeroRV, .int .i64 0, .int .i64 (k : Int)])

theorem closed_ok (f k u : Int) (a : Option Addr) (m c : Nat) (n : Int) (w : World) :
    Calls Tryd.prog 71 #[recV f k u a m c, .int .i64 n, .int .i64 0] w fun e w' => e = .returned (.tuple #[recV f k u a m c, .int .i64 n, .int .i64 0]) ∧ Below w.heap.size w w' := by
  go_enter Tryd.func71, Tryd.ntmps71
  go_wp2
  refine bodyPost_ret (v := .tuple #[recV f k u a m c, .int .i64 n, .int .i64 0]) (by simp [results, Tryd.results71, go_sem]) rfl ?_
  refine ⟨rfl, ?_⟩
  (repeat (first | exact Below.refl _ _ | (refine Below.setCell ?_ (by simp) _) | (refine bdN ?_ _) | (refine Below.drew ?_) | (refine Below.alloc ?_ (by simp) _)))
theorem closed_er (f k u : Int) (a : Option Addr) (m c : Nat) (n : Int) (x : Nat) (hx : 101 ≤ x) (w : World) :
    Calls Tryd.prog 71 #[recV f k u a m c, .int .i64 n, .int .i64 (x : Int)] w fun e w' => e = .returned (.tuple #[zeroRV, .int .i64 0, .int .i64 (x : Int)]) ∧ Below w.heap.size w w' := by
  go_enter Tryd.func71, Tryd.ntmps71
  go_wp2
  refine bodyPost_ret (v := .tuple #[zeroRV, .int .i64 0, .int .i64 (x : Int)]) (by simp [results, Tryd.results71, go_sem]) rfl ?_
  refine ⟨rfl, ?_⟩
  (repeat (first | exact Below.refl _ _ | (refine Below.setCell ?_ (by simp) _) | (refine bdN ?_ _) | (refine Below.drew ?_) | (refine Below.alloc ?_ (by simp) _)))

theorem ur_yes (a : Option Addr) (n c : Nat) (l : List UInt8) (w : World) (hs : Sl w a n c l) (u m : Nat) (h : uv l = .ok (u, m)) :
    Calls Tryd.prog 18 #[.slice a n c] w fun e w' => e = .returned (.tuple #[.int .u64 (u : Int), .int .i64 (m : Int), .int .i64 0]) ∧ w = w' :=
  (ur_any a n c l w hs).mono fun e w' hp => by unfold UrPost at hp; rw [h] at hp; exact ⟨hp.2, hp.1⟩
theorem ur_no (a : Option Addr) (n c : Nat) (l : List UInt8) (w : World) (hs : Sl w a n c l) (k : Nat) (h : uv l = .er k) :
    Calls Tryd.prog 18 #[.slice a n c] w fun e w' => e = .returned (.tuple #[.int .u64 0, .int .i64 0, .int .i64 (k : Int)]) ∧ w = w' :=
  (ur_any a n c l w hs).mono fun e w' hp => by unfold UrPost at hp; rw [h] at hp; exact ⟨hp.2, hp.1⟩
theorem untagr_yes (u : Nat) (hu : u ≤ 18446744073709551615) (f k : Nat) (h : untag u = .ok (f, k)) (w : World) :
    Calls Tryd.prog 26 #[.int .u64 (u : Int)] w fun e w' => e = .returned (.tuple #[.int .i64 (f : Int), .int .i64 (k : Int), .int .i64 0]) ∧ w = w' := by
  obtain ⟨h1, h2, h3, _, rfl, rfl⟩ := untag_ok' h
  exact untagr_ok u hu h1 h2 h3 w
theorem untagr_er (u : Nat) (hu : u ≤ 18446744073709551615) (x : Nat) (h : untag u = .er x) (w : World) :
    Calls Tryd.prog 26 #[.int .u64 (u : Int)] w fun e w' => e = .returned (.tuple #[.int .i64 0, .int .i64 0, .int .i64 103]) ∧ w = w' ∧ x = 103 := by
  rcases untag_cases u with ⟨h0, h1⟩ | ⟨h0, _⟩
  · rw [h0] at h
    cases h
    exact (untagr_no u hu h1 w).mono fun e w' ⟨h2, h3⟩ => ⟨h2, h3, rfl⟩
  · rw [h0] at h
    cases h

/-- A tag that is read, in its two steps. -/
theorem readTag_two {l : List UInt8} {f k m : Nat} (h : readTag l = .ok (f, k, m)) : ∃ u, uv l = .ok (u, m) ∧ untag u = .ok (f, k) := by
  unfold readTag at h
  cases hu : uv l with
  | er c => rw [hu] at h; cases h
  | ok p =>
    obtain ⟨u, m'⟩ := p
    rw [hu] at h
    simp only at h
    cases ht : untag u with
    | er c => rw [ht] at h; cases h
    | ok q =>
      obtain ⟨f', k'⟩ := q
      rw [ht] at h
      simp only [Res.ok.injEq, Prod.mk.injEq] at h
      obtain ⟨rfl, rfl, rfl⟩ := h
      exact ⟨u, rfl, ht⟩
theorem readTag_bad {l : List UInt8} {x : Nat} (h : readTag l = .er x) : uv l = .er x ∨ ∃ u m, uv l = .ok (u, m) ∧ untag u = .er x := by
  unfold readTag at h
  cases hu : uv l with
  | er c => rw [hu] at h; left; simpa using h
  | ok p =>
    obtain ⟨u, m'⟩ := p
    rw [hu] at h
    simp only at h
    cases ht : untag u with
    | er c => rw [ht] at h; right; exact ⟨u, m', rfl, by rw [ht]; simpa using h⟩
    | ok q => rw [ht] at h; obtain ⟨f', k'⟩ := q; cases h
theorem own_sl2 {w : World} {B : Nat} {a : Option Addr} {N c : Nat} {l : List UInt8} (h : Own w B (.slice a N c) l) : Sl w a N c l := by
  obtain ⟨a', c', e, hs⟩ := h.sl
  cases e
  exact hs

abbrev recO : Obj := .cells #[.int .i64 0, .int .i64 0, .int .u64 0, .slice none 0 0] 56
set_option maxRecDepth 100000 in
/-- A record that is refused at its tag. -/
theorem nextr_tag (a : Option Addr) (n c : Nat) (l : List UInt8) (d : Nat) (dp : Int) (w : World) (hs : Sl w a n c l) (x : Nat) (h : readTag l = .er x) :
    Calls Tryd.prog 53 #[.slice a n c, .int .i64 dp] w (NxPost (rec d l) w) := by
  have HR : Hid (rec d l = .er x) := Lib.hid (by unfold rec; rw [h])
  rcases readTag_bad h with hu | ⟨u, m, hu, ht⟩
  · have hx := uv_er hu
    have hx1 : 101 ≤ x := by omega
    clear h hx
    go_enter Tryd.func53, Tryd.ntmps53
    go_wp2_with fail
    refine (ur_no a n c l _ (hs.alloc _) x hu).mono ?_
    clear hu
    rintro e w' ⟨rfl, rfl⟩
    go_wp2_with fail
    refine bodyPost_ret (v := .tuple #[zeroRV, .int .i64 0, .int .i64 (x : Int)]) (by simp [results, Tryd.results53, go_sem]) rfl ?_
    refine ⟨?_, by rw [HR.out]⟩
    (repeat (first | exact Below.refl _ _ | assumption | (refine Below.setCell ?_ (by first | omega | (simp; omega) | simp) _) | (refine bdN ?_ _) | (refine Below.drew ?_) | (refine Below.alloc ?_ (by first | omega | (simp; omega) | simp) _)))
  · have hu8 := (uv_ok hu).2.2.2
    clear h
    go_enter Tryd.func53, Tryd.ntmps53
    go_wp2_with fail
    refine (ur_yes a n c l _ (hs.alloc _) u m hu).mono ?_
    clear hu
    rintro e w' ⟨rfl, rfl⟩
    go_wp2_with fail
    refine (untagr_er u hu8 x ht _).mono ?_
    clear ht
    rintro e w' ⟨rfl, rfl, rfl⟩
    go_wp2_with fail
    refine bodyPost_ret (v := .tuple #[zeroRV, .int .i64 0, .int .i64 103]) (by simp [results, Tryd.results53, go_sem]) rfl ?_
    refine ⟨?_, by rw [HR.out]; rfl⟩
    (repeat (first | exact Below.refl _ _ | assumption | (refine Below.setCell ?_ (by first | omega | (simp; omega) | simp) _) | (refine bdN ?_ _) | (refine Below.drew ?_) | (refine Below.alloc ?_ (by first | omega | (simp; omega) | simp) _)))

set_option maxRecDepth 100000 in
set_option maxHeartbeats 1000000 in
theorem nextr_k0 (a : Option Addr) (n c : Nat) (l : List UInt8) (d : Nat) (dp : Int) (w : World) (hs : Sl w a n c l) (f m : Nat) (h : readTag l = .ok (f, 0, m)) :
    Calls Tryd.prog 53 #[.slice a n c, .int .i64 dp] w (NxPost (rec d l) w) := by
  have hr := readTag_ok h
  have hlen := hs.len
  have hle := hs.le
  have hnine := hs.nine
  have hsub : Sl w (partAt a c m) (n - m) (c - m) (l.drop m) := sl_part hs m (n - m) (by omega) _ (by rw [List.take_of_length_le (by simp; omega)])
  obtain ⟨u, hu, ht⟩ := readTag_two h
  have hu8 := (uv_ok hu).2.2.2
  have hsl := fun W => slice_l a n c (m : Int) (by omega) (by omega) (n - m) (c - m) (by omega) (by omega) m (by omega) W
  have hrec : rec d l = match varBody (l.drop m) with
      | .er x => .er x
      | .ok (u, b, s) => .ok (⟨f, 0, u, b⟩, m + s) := by
    unfold rec; rw [h]; simp only [body0]; cases varBody (l.drop m) <;> rfl
  cases hb : uv (l.drop m) with
  | er x =>
    have HR : Hid (rec d l = .er x) := Lib.hid (by rw [hrec]; unfold varBody; rw [hb])
    have hx : 101 ≤ x := by have := uv_er hb; omega
    clear hrec h hr
    go_enter Tryd.func53, Tryd.ntmps53
    go_wp2_with fail
    refine (ur_yes a n c l _ (hs.alloc _) u m hu).mono ?_
    clear hu
    rintro e w' ⟨rfl, rfl⟩
    go_wp2_with fail
    refine (untagr_yes u hu8 f 0 ht _).mono ?_
    clear ht
    rintro e w' ⟨rfl, rfl⟩
    go_wp2_with fail
    refine (ur_no _ _ _ _ _ ((hsub.alloc _).alloc _) x hb).mono ?_
    clear hb
    rintro e w' ⟨rfl, rfl⟩
    go_wp2_with fail
    refine (closed_er _ _ _ _ _ _ _ x hx _).mono ?_
    rintro e w' ⟨rfl, hb1⟩
    have hz1 := hb1.size
    simp only [World.size_alloc] at hz1
    have k0 := hb1.cell (p := ⟨w.heap.size, 0, none⟩) (by simp; omega)
    have k1 := hb1.cell (p := ⟨w.heap.size, 1, none⟩) (by simp; omega)
    have k2 := hb1.cell (p := ⟨w.heap.size, 2, none⟩) (by simp; omega)
    have k3 := hb1.cell (p := ⟨w.heap.size, 3, none⟩) (by simp; omega)
    have kf := fun i => hb1.frozen (p := ⟨w.heap.size, i, none⟩) (by simp; omega)
    simp [go_sem] at k0 k1 k2 k3 kf
    have hlt : w.heap.size < w'.heap.size := by omega
    go_wp2_with fail
    refine bodyPost_ret (v := .tuple #[zeroRV, .int .i64 0, .int .i64 (x : Int)]) (by simp [results, Tryd.results53, go_sem, k0, k1, k2, k3, kf, hlt]) rfl ?_
    refine ⟨?_, by rw [HR.out]⟩
    (repeat (first | exact Below.refl _ _ | assumption | (refine Below.setCell ?_ (by first | omega | (simp; omega) | simp) _) | (refine bdN ?_ _) | (refine Below.drew ?_) | (refine Below.alloc ?_ (by first | omega | (simp; omega) | simp) _) | (refine Below.trans ?_ (hb1.mono (by simp; omega)))))
  | ok p =>
    obtain ⟨v, s⟩ := p
    have hv := uv_ok hb
    have hz := (hsub.len : _)
    have HR : Hid (rec d l = .ok (⟨f, 0, v, []⟩, m + s)) := Lib.hid (by rw [hrec]; unfold varBody; rw [hb])
    clear hrec h
    go_enter Tryd.func53, Tryd.ntmps53
    go_wp2_with fail
    refine (ur_yes a n c l _ (hs.alloc _) u m hu).mono ?_
    clear hu
    rintro e w' ⟨rfl, rfl⟩
    go_wp2_with fail
    refine (untagr_yes u hu8 f 0 ht _).mono ?_
    clear ht
    rintro e w' ⟨rfl, rfl⟩
    go_wp2_with fail
    refine (ur_yes _ _ _ _ _ ((hsub.alloc _).alloc _) v s hb).mono ?_
    clear hb
    rintro e w' ⟨rfl, rfl⟩
    go_wp2_with fail
    refine (closed_ok _ _ _ _ _ _ _ _).mono ?_
    rintro e w' ⟨rfl, hb1⟩
    have hz1 := hb1.size
    simp only [World.size_alloc] at hz1
    have k0 := hb1.cell (p := ⟨w.heap.size, 0, none⟩) (by simp; omega)
    have k1 := hb1.cell (p := ⟨w.heap.size, 1, none⟩) (by simp; omega)
    have k2 := hb1.cell (p := ⟨w.heap.size, 2, none⟩) (by simp; omega)
    have k3 := hb1.cell (p := ⟨w.heap.size, 3, none⟩) (by simp; omega)
    have kf := fun i => hb1.frozen (p := ⟨w.heap.size, i, none⟩) (by simp; omega)
    simp [go_sem] at k0 k1 k2 k3 kf
    have hlt : w.heap.size < w'.heap.size := by omega
    go_wp2_with fail
    refine bodyPost_ret (v := .tuple #[recV (f : Int) 0 (v : Int) none 0 0, .int .i64 ((m + s : Nat) : Int), .int .i64 0]) (by simp [results, Tryd.results53, go_sem, k0, k1, k2, k3, kf, hlt]) rfl ?_
    refine ⟨?_, by rw [HR.out]; exact ⟨_, _, _, rfl, Own.nil _ _⟩⟩
    (repeat (first | exact Below.refl _ _ | assumption | (refine Below.setCell ?_ (by first | omega | (simp; omega) | simp) _) | (refine bdN ?_ _) | (refine Below.drew ?_) | (refine Below.alloc ?_ (by first | omega | (simp; omega) | simp) _) | (refine Below.trans ?_ (hb1.mono (by simp; omega)))))

set_option maxRecDepth 100000 in
set_option maxHeartbeats 1000000 in
theorem nextr_k1 (a : Option Addr) (n c : Nat) (l : List UInt8) (d : Nat) (dp : Int) (w : World) (hs : Sl w a n c l) (f m : Nat) (h : readTag l = .ok (f, 1, m)) :
    Calls Tryd.prog 53 #[.slice a n c, .int .i64 dp] w (NxPost (rec d l) w) := by
  have hr := readTag_ok h
  have hlen := hs.len
  have hle := hs.le
  have hnine := hs.nine
  have hsub : Sl w (partAt a c m) (n - m) (c - m) (l.drop m) := sl_part hs m (n - m) (by omega) _ (by rw [List.take_of_length_le (by simp; omega)])
  obtain ⟨u, hu, ht⟩ := readTag_two h
  have hu8 := (uv_ok hu).2.2.2
  have hsl := fun W => slice_l a n c (m : Int) (by omega) (by omega) (n - m) (c - m) (by omega) (by omega) m (by omega) W
  have hrec : rec d l = match fixBody 8 (l.drop m) with
      | .er x => .er x
      | .ok (u, b, s) => .ok (⟨f, 1, u, b⟩, m + s) := by
    unfold rec; rw [h]; simp only [body1]; cases fixBody 8 (l.drop m) <;> rfl
  by_cases hb : n - m < 8
  · have HR : Hid (rec d l = .er 101) := Lib.hid (by rw [hrec]; unfold fixBody; rw [if_pos (by simp; omega)])
    clear hrec h hr
    go_enter Tryd.func53, Tryd.ntmps53
    go_wp2_with fail
    refine (ur_yes a n c l _ (hs.alloc _) u m hu).mono ?_
    clear hu
    rintro e w' ⟨rfl, rfl⟩
    go_wp2_with fail
    refine (untagr_yes u hu8 f 1 ht _).mono ?_
    clear ht
    rintro e w' ⟨rfl, rfl⟩
    go_wp2_with fail
    refine (unfixedr_short _ _ _ _ _ ((hsub.alloc _).alloc _) 8 (by omega) hb).mono ?_
    clear hb
    rintro e w' ⟨rfl, rfl⟩
    go_wp2_with fail
    refine (closed_er _ _ _ _ _ _ _ 101 (by omega) _).mono ?_
    rintro e w' ⟨rfl, hb1⟩
    have hz1 := hb1.size
    simp only [World.size_alloc] at hz1
    have k0 := hb1.cell (p := ⟨w.heap.size, 0, none⟩) (by simp; omega)
    have k1 := hb1.cell (p := ⟨w.heap.size, 1, none⟩) (by simp; omega)
    have k2 := hb1.cell (p := ⟨w.heap.size, 2, none⟩) (by simp; omega)
    have k3 := hb1.cell (p := ⟨w.heap.size, 3, none⟩) (by simp; omega)
    have kf := fun i => hb1.frozen (p := ⟨w.heap.size, i, none⟩) (by simp; omega)
    simp [go_sem] at k0 k1 k2 k3 kf
    have hlt : w.heap.size < w'.heap.size := by omega
    go_wp2_with fail
    refine bodyPost_ret (v := .tuple #[zeroRV, .int .i64 0, .int .i64 101]) (by simp [results, Tryd.results53, go_sem, k0, k1, k2, k3, kf, hlt]) rfl ?_
    refine ⟨?_, by rw [HR.out]; rfl⟩
    (repeat (first | exact Below.refl _ _ | assumption | (refine Below.setCell ?_ (by first | omega | (simp; omega) | simp) _) | (refine bdN ?_ _) | (refine Below.drew ?_) | (refine Below.alloc ?_ (by first | omega | (simp; omega) | simp) _) | (refine Below.trans ?_ (hb1.mono (by simp; omega)))))
  · have hm8 : m + 8 ≤ n := by omega
    have HR : Hid (rec d l = .ok (⟨f, 1, leNum ((l.drop m).take 8), []⟩, m + 8)) := Lib.hid (by rw [hrec]; unfold fixBody; rw [if_neg (by simp; omega)])
    clear hrec h
    go_enter Tryd.func53, Tryd.ntmps53
    go_wp2_with fail
    refine (ur_yes a n c l _ (hs.alloc _) u m hu).mono ?_
    clear hu
    rintro e w' ⟨rfl, rfl⟩
    go_wp2_with fail
    refine (untagr_yes u hu8 f 1 ht _).mono ?_
    clear ht
    rintro e w' ⟨rfl, rfl⟩
    go_wp2_with fail
    refine (unfixedr_ok _ _ _ _ _ ((hsub.alloc _).alloc _) 8 (by omega) (by omega)).mono ?_
    clear hb
    rintro e w' ⟨rfl, rfl⟩
    go_wp2_with fail
    refine (closed_ok _ _ _ _ _ _ _ _).mono ?_
    rintro e w' ⟨rfl, hb1⟩
    have hz1 := hb1.size
    simp only [World.size_alloc] at hz1
    have k0 := hb1.cell (p := ⟨w.heap.size, 0, none⟩) (by simp; omega)
    have k1 := hb1.cell (p := ⟨w.heap.size, 1, none⟩) (by simp; omega)
    have k2 := hb1.cell (p := ⟨w.heap.size, 2, none⟩) (by simp; omega)
    have k3 := hb1.cell (p := ⟨w.heap.size, 3, none⟩) (by simp; omega)
    have kf := fun i => hb1.frozen (p := ⟨w.heap.size, i, none⟩) (by simp; omega)
    simp [go_sem] at k0 k1 k2 k3 kf
    have hlt : w.heap.size < w'.heap.size := by omega
    go_wp2_with fail
    refine bodyPost_ret (v := .tuple #[recV (f : Int) 1 (leNum ((l.drop m).take 8) : Int) none 0 0, .int .i64 ((m + 8 : Nat) : Int), .int .i64 0]) (by simp [IntWalk.wrap64_in ((m : Int) + 8) (by omega), results, Tryd.results53, go_sem, k0, k1, k2, k3, kf, hlt]) rfl ?_
    refine ⟨?_, by rw [HR.out]; exact ⟨_, _, _, rfl, Own.nil _ _⟩⟩
    (repeat (first | exact Below.refl _ _ | assumption | (refine Below.setCell ?_ (by first | omega | (simp; omega) | simp) _) | (refine bdN ?_ _) | (refine Below.drew ?_) | (refine Below.alloc ?_ (by first | omega | (simp; omega) | simp) _) | (refine Below.trans ?_ (hb1.mono (by simp; omega)))))

set_option maxRecDepth 100000 in
set_option maxHeartbeats 1000000 in
theorem nextr_k5 (a : Option Addr) (n c : Nat) (l : List UInt8) (d : Nat) (dp : Int) (w : World) (hs : Sl w a n c l) (f m : Nat) (h : readTag l = .ok (f, 5, m)) :
    Calls Tryd.prog 53 #[.slice a n c, .int .i64 dp] w (NxPost (rec d l) w) := by
  have hr := readTag_ok h
  have hlen := hs.len
  have hle := hs.le
  have hnine := hs.nine
  have hsub : Sl w (partAt a c m) (n - m) (c - m) (l.drop m) := sl_part hs m (n - m) (by omega) _ (by rw [List.take_of_length_le (by simp; omega)])
  obtain ⟨u, hu, ht⟩ := readTag_two h
  have hu8 := (uv_ok hu).2.2.2
  have hsl := fun W => slice_l a n c (m : Int) (by omega) (by omega) (n - m) (c - m) (by omega) (by omega) m (by omega) W
  have hrec : rec d l = match fixBody 4 (l.drop m) with
      | .er x => .er x
      | .ok (u, b, s) => .ok (⟨f, 5, u, b⟩, m + s) := by
    unfold rec; rw [h]; simp only [body5]; cases fixBody 4 (l.drop m) <;> rfl
  by_cases hb : n - m < 4
  · have HR : Hid (rec d l = .er 101) := Lib.hid (by rw [hrec]; unfold fixBody; rw [if_pos (by simp; omega)])
    clear hrec h hr
    go_enter Tryd.func53, Tryd.ntmps53
    go_wp2_with fail
    refine (ur_yes a n c l _ (hs.alloc _) u m hu).mono ?_
    clear hu
    rintro e w' ⟨rfl, rfl⟩
    go_wp2_with fail
    refine (untagr_yes u hu8 f 5 ht _).mono ?_
    clear ht
    rintro e w' ⟨rfl, rfl⟩
    go_wp2_with fail
    refine (unfixedr_short _ _ _ _ _ ((hsub.alloc _).alloc _) 4 (by omega) hb).mono ?_
    clear hb
    rintro e w' ⟨rfl, rfl⟩
    go_wp2_with fail
    refine (closed_er _ _ _ _ _ _ _ 101 (by omega) _).mono ?_
    rintro e w' ⟨rfl, hb1⟩
    have hz1 := hb1.size
    simp only [World.size_alloc] at hz1
    have k0 := hb1.cell (p := ⟨w.heap.size, 0, none⟩) (by simp; omega)
    have k1 := hb1.cell (p := ⟨w.heap.size, 1, none⟩) (by simp; omega)
    have k2 := hb1.cell (p := ⟨w.heap.size, 2, none⟩) (by simp; omega)
    have k3 := hb1.cell (p := ⟨w.heap.size, 3, none⟩) (by simp; omega)
    have kf := fun i => hb1.frozen (p := ⟨w.heap.size, i, none⟩) (by simp; omega)
    simp [go_sem] at k0 k1 k2 k3 kf
    have hlt : w.heap.size < w'.heap.size := by omega
    go_wp2_with fail
    refine bodyPost_ret (v := .tuple #[zeroRV, .int .i64 0, .int .i64 101]) (by simp [results, Tryd.results53, go_sem, k0, k1, k2, k3, kf, hlt]) rfl ?_
    refine ⟨?_, by rw [HR.out]; rfl⟩
    (repeat (first | exact Below.refl _ _ | assumption | (refine Below.setCell ?_ (by first | omega | (simp; omega) | simp) _) | (refine bdN ?_ _) | (refine Below.drew ?_) | (refine Below.alloc ?_ (by first | omega | (simp; omega) | simp) _) | (refine Below.trans ?_ (hb1.mono (by simp; omega)))))
  · have hm8 : m + 4 ≤ n := by omega
    have HR : Hid (rec d l = .ok (⟨f, 5, leNum ((l.drop m).take 4), []⟩, m + 4)) := Lib.hid (by rw [hrec]; unfold fixBody; rw [if_neg (by simp; omega)])
    clear hrec h
    go_enter Tryd.func53, Tryd.ntmps53
    go_wp2_with fail
    refine (ur_yes a n c l _ (hs.alloc _) u m hu).mono ?_
    clear hu
    rintro e w' ⟨rfl, rfl⟩
    go_wp2_with fail
    refine (untagr_yes u hu8 f 5 ht _).mono ?_
    clear ht
    rintro e w' ⟨rfl, rfl⟩
    go_wp2_with fail
    refine (unfixedr_ok _ _ _ _ _ ((hsub.alloc _).alloc _) 4 (by omega) (by omega)).mono ?_
    clear hb
    rintro e w' ⟨rfl, rfl⟩
    go_wp2_with fail
    refine (closed_ok _ _ _ _ _ _ _ _).mono ?_
    rintro e w' ⟨rfl, hb1⟩
    have hz1 := hb1.size
    simp only [World.size_alloc] at hz1
    have k0 := hb1.cell (p := ⟨w.heap.size, 0, none⟩) (by simp; omega)
    have k1 := hb1.cell (p := ⟨w.heap.size, 1, none⟩) (by simp; omega)
    have k2 := hb1.cell (p := ⟨w.heap.size, 2, none⟩) (by simp; omega)
    have k3 := hb1.cell (p := ⟨w.heap.size, 3, none⟩) (by simp; omega)
    have kf := fun i => hb1.frozen (p := ⟨w.heap.size, i, none⟩) (by simp; omega)
    simp [go_sem] at k0 k1 k2 k3 kf
    have hlt : w.heap.size < w'.heap.size := by omega
    go_wp2_with fail
    refine bodyPost_ret (v := .tuple #[recV (f : Int) 5 (leNum ((l.drop m).take 4) : Int) none 0 0, .int .i64 ((m + 4 : Nat) : Int), .int .i64 0]) (by simp [IntWalk.wrap64_in ((m : Int) + 4) (by omega), results, Tryd.results53, go_sem, k0, k1, k2, k3, kf, hlt]) rfl ?_
    refine ⟨?_, by rw [HR.out]; exact ⟨_, _, _, rfl, Own.nil _ _⟩⟩
    (repeat (first | exact Below.refl _ _ | assumption | (refine Below.setCell ?_ (by first | omega | (simp; omega) | simp) _) | (refine bdN ?_ _) | (refine Below.drew ?_) | (refine Below.alloc ?_ (by first | omega | (simp; omega) | simp) _) | (refine Below.trans ?_ (hb1.mono (by simp; omega)))))

set_option maxRecDepth 100000 in
set_option maxHeartbeats 1000000 in
theorem nextr_k4 (a : Option Addr) (n c : Nat) (l : List UInt8) (d : Nat) (dp : Int) (w : World) (hs : Sl w a n c l) (f m : Nat) (h : readTag l = .ok (f, 4, m)) :
    Calls Tryd.prog 53 #[.slice a n c, .int .i64 dp] w (NxPost (rec d l) w) := by
  have hr := readTag_ok h
  have hlen := hs.len
  have hle := hs.le
  have hnine := hs.nine
  have hsub : Sl w (partAt a c m) (n - m) (c - m) (l.drop m) := sl_part hs m (n - m) (by omega) _ (by rw [List.take_of_length_le (by simp; omega)])
  obtain ⟨u, hu, ht⟩ := readTag_two h
  have hu8 := (uv_ok hu).2.2.2
  have HR : Hid (rec d l = .er 104) := Lib.hid (by unfold rec; rw [h]; simp only [body4])
  clear h hr
  go_enter Tryd.func53, Tryd.ntmps53
  go_wp2_with fail
  refine (ur_yes a n c l _ (hs.alloc _) u m hu).mono ?_
  clear hu
  rintro e w' ⟨rfl, rfl⟩
  go_wp2_with fail
  refine (untagr_yes u hu8 f 4 ht _).mono ?_
  clear ht
  rintro e w' ⟨rfl, rfl⟩
  go_wp2_with fail
  refine bodyPost_ret (v := .tuple #[zeroRV, .int .i64 0, .int .i64 104]) (by simp [results, Tryd.results53, go_sem]) rfl ?_
  refine ⟨?_, by rw [HR.out]; rfl⟩
  (repeat (first | exact Below.refl _ _ | assumption | (refine Below.setCell ?_ (by first | omega | (simp; omega) | simp) _) | (refine bdN ?_ _) | (refine Below.drew ?_) | (refine Below.alloc ?_ (by first | omega | (simp; omega) | simp) _)))

set_option maxRecDepth 100000 in
set_option maxHeartbeats 2000000 in
theorem nextr_k2 (a : Option Addr) (n c : Nat) (l : List UInt8) (d : Nat) (dp : Int) (w : World) (hs : Sl w a n c l) (hn : n ≤ 140737488355328) (f m : Nat) (h : readTag l = .ok (f, 2, m)) :
    Calls Tryd.prog 53 #[.slice a n c, .int .i64 dp] w (NxPost (rec d l) w) := by
  have hr := readTag_ok h
  have hlen := hs.len
  have hle := hs.le
  have hnine := hs.nine
  have hsub : Sl w (partAt a c m) (n - m) (c - m) (l.drop m) := sl_part hs m (n - m) (by omega) _ (by rw [List.take_of_length_le (by simp; omega)])
  obtain ⟨u, hu, ht⟩ := readTag_two h
  have hu8 := (uv_ok hu).2.2.2
  have hsl := fun W => slice_l a n c (m : Int) (by omega) (by omega) (n - m) (c - m) (by omega) (by omega) m (by omega) W
  have hrec : rec d l = match bytBody (l.drop m) with
      | .er x => .er x
      | .ok (u, b, s) => .ok (⟨f, 2, u, b⟩, m + s) := by
    unfold rec; rw [h]; simp only [body2]; cases bytBody (l.drop m) <;> rfl
  cases hb : uv (l.drop m) with
  | er x =>
    have HR : Hid (rec d l = .er x) := Lib.hid (by rw [hrec]; unfold bytBody; rw [hb])
    have hx : 101 ≤ x := by have := uv_er hb; omega
    clear hrec h hr
    go_enter Tryd.func53, Tryd.ntmps53
    go_wp2_with fail
    refine (ur_yes a n c l _ (hs.alloc _) u m hu).mono ?_
    clear hu
    rintro e w' ⟨rfl, rfl⟩
    go_wp2_with fail
    refine (untagr_yes u hu8 f 2 ht _).mono ?_
    clear ht
    rintro e w' ⟨rfl, rfl⟩
    go_wp2_with fail
    refine (ur_no _ _ _ _ _ ((hsub.alloc _).alloc _) x hb).mono ?_
    clear hb
    rintro e w' ⟨rfl, rfl⟩
    go_wp2_with fail
    refine bodyPost_ret (v := .tuple #[zeroRV, .int .i64 0, .int .i64 (x : Int)]) (by simp [results, Tryd.results53, go_sem]) rfl ?_
    refine ⟨?_, by rw [HR.out]⟩
    (repeat (first | exact Below.refl _ _ | assumption | (refine Below.setCell ?_ (by first | omega | (simp; omega) | simp) _) | (refine bdN ?_ _) | (refine Below.drew ?_) | (refine Below.alloc ?_ (by first | omega | (simp; omega) | simp) _)))
  | ok p =>
    obtain ⟨v, s⟩ := p
    have hub := uv_ok hb
    simp only [List.length_drop] at hub
    have hv8 : v ≤ 18446744073709551615 := hub.2.2.2
    have hms : m + s ≤ n := by omega
    clear hub
    by_cases hlt : n - (m + s) < v
    · have HR : Hid (rec d l = .er 101) := Lib.hid (by rw [hrec]; unfold bytBody; rw [hb]; simp only [List.length_drop, hlen]; rw [if_pos (by omega)])
      clear hrec h
      go_enter Tryd.func53, Tryd.ntmps53
      go_wp2_with fail
      refine (ur_yes a n c l _ (hs.alloc _) u m hu).mono ?_
      clear hu
      rintro e w' ⟨rfl, rfl⟩
      go_wp2_with fail
      refine (untagr_yes u hu8 f 2 ht _).mono ?_
      clear ht
      rintro e w' ⟨rfl, rfl⟩
      go_wp2_with fail
      refine (ur_yes _ _ _ _ _ ((hsub.alloc _).alloc _) v s hb).mono ?_
      clear hb
      rintro e w' ⟨rfl, rfl⟩
      go_wp2_with fail
      refine bodyPost_ret (v := .tuple #[zeroRV, .int .i64 0, .int .i64 101]) (by simp [results, Tryd.results53, go_sem]) rfl ?_
      refine ⟨?_, by rw [HR.out]; rfl⟩
      (repeat (first | exact Below.refl _ _ | assumption | (refine Below.setCell ?_ (by first | omega | (simp; omega) | simp) _) | (refine bdN ?_ _) | (refine Below.drew ?_) | (refine Below.alloc ?_ (by first | omega | (simp; omega) | simp) _)))
    · have HR : Hid (rec d l = .ok (⟨f, 2, 0, (l.drop (m + s)).take v⟩, m + s + v)) := Lib.hid (by rw [hrec]; unfold bytBody; rw [hb]; simp only [List.length_drop, hlen]; rw [if_neg (by omega)]; simp [List.drop_drop, Nat.add_assoc])
      have hs2 := fun W => slice_lh a n c ((m : Int) + (s : Int)) ((m : Int) + (s : Int) + (v : Int)) (by omega) (by omega) (by omega) v (c - (m + s)) (by omega) (by omega) (m + s) (by omega) W
      have hsub2 : Sl w (partAt a c (m + s)) v (c - (m + s)) ((l.drop (m + s)).take v) := sl_part hs (m + s) v (by omega) _ rfl
      clear hrec h
      go_enter Tryd.func53, Tryd.ntmps53
      go_wp2_with fail
      refine (ur_yes a n c l _ (hs.alloc _) u m hu).mono ?_
      clear hu
      rintro e w' ⟨rfl, rfl⟩
      go_wp2_with fail
      refine (untagr_yes u hu8 f 2 ht _).mono ?_
      clear ht
      rintro e w' ⟨rfl, rfl⟩
      go_wp2_with fail
      refine (ur_yes _ _ _ _ _ ((hsub.alloc _).alloc _) v s hb).mono ?_
      clear hb
      rintro e w' ⟨rfl, rfl⟩
      go_wp2_with fail
      refine (bytes_any _ _ _ _ _ ((hsub2.alloc _).alloc _) (by omega)).mono ?_
      rintro e w' ⟨ax, Nx, cx, rfl, hNx, hox, hb1⟩
      have hz1 := hb1.size
      simp only [World.size_alloc] at hz1
      have k0 := hb1.cell (p := ⟨w.heap.size, 0, none⟩) (by simp; omega)
      have k1 := hb1.cell (p := ⟨w.heap.size, 1, none⟩) (by simp; omega)
      have k2 := hb1.cell (p := ⟨w.heap.size, 2, none⟩) (by simp; omega)
      have k3 := hb1.cell (p := ⟨w.heap.size, 3, none⟩) (by simp; omega)
      have kf := fun i => hb1.frozen (p := ⟨w.heap.size, i, none⟩) (by simp; omega)
      simp [go_sem] at k0 k1 k2 k3 kf
      have hlt : w.heap.size < w'.heap.size := by omega
      have j0 := hb1.cell (p := ⟨w.heap.size + 1, 0, none⟩) (by simp)
      have j1 := hb1.cell (p := ⟨w.heap.size + 1, 1, none⟩) (by simp)
      have j2 := hb1.cell (p := ⟨w.heap.size + 1, 2, none⟩) (by simp)
      have j3 := hb1.cell (p := ⟨w.heap.size + 1, 3, none⟩) (by simp)
      have jf := fun i => hb1.frozen (p := ⟨w.heap.size + 1, i, none⟩) (by simp)
      simp [go_sem] at j0 j1 j2 j3 jf
      have hlt1 : w.heap.size + 1 < w'.heap.size := by omega
      go_wp2_with fail
      refine bodyPost_ret (v := .tuple #[recV (f : Int) 2 0 ax Nx cx, .int .i64 ((m + s + v : Nat) : Int), .int .i64 0]) (by simp [IntWalk.wrap64_in ((m : Int) + (s : Int) + (v : Int)) (by omega), results, Tryd.results53, go_sem, k0, k1, k2, k3, kf, hlt, j0, j1, j2, j3, jf, hlt1]) rfl ?_
      refine ⟨?_, by rw [HR.out]; refine ⟨_, _, _, rfl, ?_⟩; simp only [World.size_alloc] at hox; refine Own.mono (B := w.heap.size + 1 + 1) ?_ (by omega); exact (ownsRow_setCell_below (ownsRow_setCell_below (ownsRow_setCell_below (ownsRow_setCell_below (ownsRow_setCell_below hox (by simp <;> omega) _) (by simp <;> omega) _) (by simp <;> omega) _) (by simp <;> omega) _) (by simp <;> omega) _)⟩
      (repeat (first | exact Below.refl _ _ | assumption | (refine Below.setCell ?_ (by first | omega | (simp; omega) | simp) _) | (refine bdN ?_ _) | (refine Below.drew ?_) | (refine Below.alloc ?_ (by first | omega | (simp; omega) | simp) _) | (refine Below.trans ?_ (hb1.mono (by simp; omega)))))

/-- A group's records are records. -/
theorem grp_rec (d f : Nat) (l : List UInt8) (fuel i : Nat) : grp (body d) f l (fuel + 1) i = match readTag (l.drop i) with
    | .er c => .er c
    | .ok (f', k, n) => if k = 4 ∧ f' = f then .ok (0, l.take i, i + n) else match rec d (l.drop i) with
      | .er c => .er c
      | .ok (_, s) => grp (body d) f l fuel (i + s) := by
  rw [grp]
  unfold rec
  cases h : readTag (l.drop i) with
  | er c => rfl
  | ok p =>
    obtain ⟨f', k, n⟩ := p
    simp only [List.drop_drop]
    cases body d k (l.drop (i + n)) f' with
    | er c => rfl
    | ok q => obtain ⟨u, b, s⟩ := q; simp only [Nat.add_assoc]
theorem grp_u0 (d f : Nat) (l : List UInt8) : ∀ (fuel i u : Nat) (b : List UInt8) (s : Nat), grp (body d) f l fuel i = .ok (u, b, s) → u = 0
  | 0, i, u, b, s, h => by rw [grp] at h; cases h
  | fuel + 1, i, u, b, s, h => by
    rw [grp_rec] at h
    cases ht : readTag (l.drop i) with
    | er c => rw [ht] at h; cases h
    | ok p =>
      obtain ⟨f', k, n⟩ := p
      rw [ht] at h
      simp only at h
      split at h
      · simp only [Res.ok.injEq, Prod.mk.injEq] at h; exact h.1.symm
      · cases hr : rec d (l.drop i) with
        | er c => rw [hr] at h; cases h
        | ok q => rw [hr] at h; exact grp_u0 d f l fuel _ u b s h
theorem body3_u0 {d : Nat} {l : List UInt8} {f u : Nat} {b : List UInt8} {s : Nat} (h : body d 3 l f = .ok (u, b, s)) : u = 0 := by
  cases d with
  | zero => rw [body3z] at h; cases h
  | succ d => rw [body3s] at h; exact grp_u0 d f l _ _ u b s h

def NextR (d depth : Nat) : Prop := ∀ W a n c l, Sl W a n c l → n ≤ 140737488355328 → Calls Tryd.prog 53 #[.slice a n c, .int .i64 (depth : Int)] W (NxPost (rec d l) W)
def GroupR (d depth : Nat) : Prop := ∀ W a n c l (f i : Nat), Sl W a n c l → n ≤ 140737488355328 → i ≤ n → Calls Tryd.prog 72 #[.slice a n c, recV (f : Int) 3 0 none 0 0, .int .i64 (i : Int), .int .i64 (depth : Int)] W (GxPost f i (body d 3 (l.drop i) f) W)

set_option maxRecDepth 100000 in
set_option maxHeartbeats 2000000 in
theorem nextr_k3 (d depth : Nat) (hg : GroupR d depth) (a : Option Addr) (n c : Nat) (l : List UInt8) (w : World) (hs : Sl w a n c l) (hn : n ≤ 140737488355328) (f m : Nat) (h : readTag l = .ok (f, 3, m)) :
    Calls Tryd.prog 53 #[.slice a n c, .int .i64 (depth : Int)] w (NxPost (rec d l) w) := by
  have hr := readTag_ok h
  have hlen := hs.len
  have hle := hs.le
  have hnine := hs.nine
  have hsub : Sl w (partAt a c m) (n - m) (c - m) (l.drop m) := sl_part hs m (n - m) (by omega) _ (by rw [List.take_of_length_le (by simp; omega)])
  obtain ⟨u, hu, ht⟩ := readTag_two h
  have hu8 := (uv_ok hu).2.2.2
  have hrec : rec d l = match body d 3 (l.drop m) f with
      | .er x => .er x
      | .ok (u, b, s) => .ok (⟨f, 3, u, b⟩, m + s) := by
    unfold rec; rw [h]; simp only; cases body d 3 (l.drop m) f <;> rfl
  have HG := Lib.hid (hg _ _ _ _ _ f m ((hs.alloc recO).alloc (.cells #[.int .i64 (f : Int), .int .i64 3, .int .u64 0, .slice none 0 0] 56)) hn (by omega)); clear hg
  cases hb : body d 3 (l.drop m) f with
  | er x =>
    have HR : Hid (rec d l = .er x) := Lib.hid (by rw [hrec, hb])
    rw [hb] at HG
    clear hrec h hr hb
    go_enter Tryd.func53, Tryd.ntmps53
    go_wp2_with fail
    refine (ur_yes a n c l _ (hs.alloc _) u m hu).mono ?_
    clear hu
    rintro e w' ⟨rfl, rfl⟩
    go_wp2_with fail
    refine (untagr_yes u hu8 f 3 ht _).mono ?_
    clear ht
    rintro e w' ⟨rfl, rfl⟩
    go_wp2_with fail
    refine HG.out.mono ?_
    rintro e w' ⟨hb1, rfl⟩
    have hz1 := hb1.size
    simp only [World.size_alloc] at hz1
    have k0 := hb1.cell (p := ⟨w.heap.size, 0, none⟩) (by simp; omega)
    have k1 := hb1.cell (p := ⟨w.heap.size, 1, none⟩) (by simp; omega)
    have k2 := hb1.cell (p := ⟨w.heap.size, 2, none⟩) (by simp; omega)
    have k3 := hb1.cell (p := ⟨w.heap.size, 3, none⟩) (by simp; omega)
    have kf := fun i => hb1.frozen (p := ⟨w.heap.size, i, none⟩) (by simp; omega)
    simp [go_sem] at k0 k1 k2 k3 kf
    have hlt : w.heap.size < w'.heap.size := by omega
    go_wp2_with fail
    refine bodyPost_ret (v := .tuple #[zeroRV, .int .i64 0, .int .i64 (x : Int)]) (by simp [results, Tryd.results53, go_sem, k0, k1, k2, k3, kf, hlt]) rfl ?_
    refine ⟨?_, by rw [HR.out]⟩
    (repeat (first | exact Below.refl _ _ | assumption | (refine Below.setCell ?_ (by first | omega | (simp; omega) | simp) _) | (refine bdN ?_ _) | (refine Below.drew ?_) | (refine Below.alloc ?_ (by first | omega | (simp; omega) | simp) _) | (refine Below.trans ?_ (hb1.mono (by simp; omega)))))
  | ok p =>
    obtain ⟨u3, b, s⟩ := p
    obtain rfl := body3_u0 hb
    have HR : Hid (rec d l = .ok (⟨f, 3, 0, b⟩, m + s)) := Lib.hid (by rw [hrec, hb])
    rw [hb] at HG
    clear hrec h hr hb
    go_enter Tryd.func53, Tryd.ntmps53
    go_wp2_with fail
    refine (ur_yes a n c l _ (hs.alloc _) u m hu).mono ?_
    clear hu
    rintro e w' ⟨rfl, rfl⟩
    go_wp2_with fail
    refine (untagr_yes u hu8 f 3 ht _).mono ?_
    clear ht
    rintro e w' ⟨rfl, rfl⟩
    go_wp2_with fail
    refine HG.out.mono ?_
    rintro e w' ⟨hb1, ax, mx, cx, rfl, hsx⟩
    have hz1 := hb1.size
    simp only [World.size_alloc] at hz1
    have k0 := hb1.cell (p := ⟨w.heap.size, 0, none⟩) (by simp; omega)
    have k1 := hb1.cell (p := ⟨w.heap.size, 1, none⟩) (by simp; omega)
    have k2 := hb1.cell (p := ⟨w.heap.size, 2, none⟩) (by simp; omega)
    have k3 := hb1.cell (p := ⟨w.heap.size, 3, none⟩) (by simp; omega)
    have kf := fun i => hb1.frozen (p := ⟨w.heap.size, i, none⟩) (by simp; omega)
    simp [go_sem] at k0 k1 k2 k3 kf
    have hlt : w.heap.size < w'.heap.size := by omega
    go_wp2_with fail
    refine bodyPost_ret (v := .tuple #[recV (f : Int) 3 0 ax mx cx, .int .i64 ((m + s : Nat) : Int), .int .i64 0]) (by simp [results, Tryd.results53, go_sem, k0, k1, k2, k3, kf, hlt]) rfl ?_
    refine ⟨?_, ?_⟩
    · (repeat (first | exact Below.refl _ _ | assumption | (refine Below.setCell ?_ (by first | omega | (simp; omega) | simp) _) | (refine bdN ?_ _) | (refine Below.drew ?_) | (refine Below.alloc ?_ (by first | omega | (simp; omega) | simp) _) | (refine Below.trans ?_ (hb1.mono (by simp; omega)))))
    · rw [HR.out]
      refine ⟨_, _, _, rfl, ?_⟩
      simp only [World.size_alloc] at hsx
      refine Own.mono (B := w.heap.size + 1 + 1) ?_ (by omega)
      exact (ownsRow_setCell_below (ownsRow_setCell_below (ownsRow_setCell_below (ownsRow_setCell_below hsx (by simp <;> omega) _) (by simp <;> omega) _) (by simp <;> omega) _) (by simp <;> omega) _)

set_option maxRecDepth 100000 in
theorem groupr_zero : GroupR 0 32 := by
  intro w a n c l f i hs hn hi
  rw [body3z]
  show Calls Tryd.prog 72 #[.slice a n c, recV (f : Int) 3 0 none 0 0, .int .i64 (i : Int), .int .i64 32] w _
  go_enter Tryd.func72, Tryd.ntmps72
  go_wp2
  refine bodyPost_ret (v := .tuple #[zeroRV, .int .i64 0, .int .i64 105]) (by simp [results, Tryd.results72, go_sem]) rfl ?_
  refine ⟨?_, rfl⟩
  (repeat (first | exact Below.refl _ _ | assumption | (refine Below.setCell ?_ (by first | omega | (simp; omega) | simp) _) | (refine bdN ?_ _) | (refine Below.drew ?_) | (refine Below.alloc ?_ (by first | omega | (simp; omega) | simp) _)))

end Go.Proofs.YtclnmajjkchfmaaDoor
