/-
  CONTRACTS: readTag, and the readers of a number's, a fixed number's, a text's body, and of a stray end.
-/
import Derived.Test.YtclnmajjkchfmaaDoorA
import Derived.Test.YtclnmajjkchfmaaDoorE
import Derived.Test.YtclnmajjkchfmaaDoorMr
import Derived.RegionTactic
namespace Go.Proofs.YtclnmajjkchfmaaDoor
open Go.RowKit Wr

/-- Uvarint, its two ways apart. -/
theorem uv_yes (ea : Nat → Addr) (a : Option Addr) (n c : Nat) (l : List UInt8) (w : World) (hs : Sl w a n c l) (E : Env w ea) (u m : Nat) (h : uv l = .ok (u, m)) :
    Calls Tryd.prog 17 #[.slice a n c] w (Drawn (.returned (.tuple #[.int .u64 (u : Int), .int .i64 (m : Int), .nilIface])) w) :=
  (uv_any ea a n c l w hs E).mono fun e w' ⟨h1, h2⟩ => by rw [h] at h2; exact ⟨h2, h1⟩
theorem uv_no (ea : Nat → Addr) (a : Option Addr) (n c : Nat) (l : List UInt8) (w : World) (hs : Sl w a n c l) (E : Env w ea) (k : Nat) (h : uv l = .er k) :
    Calls Tryd.prog 17 #[.slice a n c] w (Drawn (.returned (.tuple #[.int .u64 0, .int .i64 0, errV ea k])) w) :=
  (uv_any ea a n c l w hs E).mono fun e w' ⟨h1, h2⟩ => by rw [h] at h2; exact ⟨h2, h1⟩

/-- What readTag answers. -/
def TagPost (ea : Nat → Addr) (l : List UInt8) (w : World) (e : Ending) (w' : World) : Prop :=
  (∃ nq, w' = w.drewN nq) ∧ match readTag l with
    | .ok (f, k, n) => e = .returned (.tuple #[.int .i64 (f : Int), .int .i64 (k : Int), .int .i64 (n : Int), .nilIface])
    | .er c => e = .returned (.tuple #[.int .i64 0, .int .i64 0, .int .i64 0, errV ea c])

theorem results_tmp4 {fn : Func} {t u v x : Tmp} (h : fn.results = #[.tmp t, .tmp u, .tmp v, .tmp x]) (tmps : Array Value) (P : Program) (w : World) :
    (results fn tmps).run P w = .ok (.tuple #[tmps.getD t undef, tmps.getD u undef, tmps.getD v undef, tmps.getD x undef]) w := by
  simp [results, h]

set_option maxHeartbeats 1000000 in
theorem readTag_any (ea : Nat → Addr) (a : Option Addr) (n c : Nat) (l : List UInt8) (w : World) (hs : Sl w a n c l) (E : Env w ea) :
    Calls Tryd.prog 70 #[.slice a n c] w (TagPost ea l w) := by
  cases hu : uv l with
  | er k =>
    have HR : Hid (readTag l = .er k) := Lib.hid (by unfold readTag; rw [hu])
    go_enter Tryd.func70, Tryd.ntmps70
    go_wp2_with fail
    refine (uv_no ea a n c l _ hs E k hu).mono ?_
    clear hu
    rintro e w' ⟨rfl, nq, rfl⟩
    go_wp2_with fail
    refine bodyPost_ret (results_tmp4 rfl _ _ _) rfl ?_
    exact ⟨⟨_, rfl⟩, by rw [HR.out]; rfl⟩
  | ok p =>
    obtain ⟨u, m⟩ := p
    have hb := uv_ok hu
    have hu6 : u ≤ 18446744073709551615 := hb.2.2.2
    clear hb
    rcases untag_cases u with ⟨ht, hc⟩ | ⟨ht, h1, h2, h3⟩
    · have HR : Hid (readTag l = .er 103) := Lib.hid (by unfold readTag; rw [hu]; simp only [ht])
      clear ht
      go_enter Tryd.func70, Tryd.ntmps70
      go_wp2_with fail
      refine (uv_yes ea a n c l _ hs E u m hu).mono ?_
      clear hu
      rintro e w' ⟨rfl, nq, rfl⟩
      go_wp2_with fail
      refine (untag_no ea u hu6 hc _ (E.drewN nq)).mono ?_
      rintro e w' ⟨rfl, nq2, rfl⟩
      clear hc
      go_wp2_with fail
      refine bodyPost_ret (results_tmp4 rfl _ _ _) rfl ?_
      exact ⟨⟨_, rfl⟩, by rw [HR.out]; rfl⟩
    · have HR : Hid (readTag l = .ok (u / 8, u % 8, m)) := Lib.hid (by unfold readTag; rw [hu]; simp only [ht])
      clear ht
      go_enter Tryd.func70, Tryd.ntmps70
      go_wp2_with fail
      refine (uv_yes ea a n c l _ hs E u m hu).mono ?_
      clear hu
      rintro e w' ⟨rfl, nq, rfl⟩
      go_wp2_with fail
      refine (untag_ok u hu6 h1 h2 h3 _).mono ?_
      rintro e w' ⟨rfl, rfl⟩
      clear h1 h2 h3
      go_wp2_with fail
      refine bodyPost_ret (results_tmp4 rfl _ _ _) rfl ?_
      exact ⟨⟨_, rfl⟩, by rw [HR.out]; rfl⟩

/-- What a reader answers, in the world w; what it was handed lies in w0. -/
def BodyPost (ea : Nat → Addr) (r : Res Body) (w0 w : World) (e : Ending) (w' : World) : Prop :=
  Below w.heap.size w w' ∧ match r with
    | .ok (u, b, s) => ∃ a m c, e = .returned (.tuple #[.agg #[.int .u64 (u : Int), .slice a m c, .int .i64 (s : Int)], .nilIface]) ∧ Sl w0 a m c b
    | .er k => e = .returned (.tuple #[.agg #[.int .u64 0, .slice none 0 0, .int .i64 0], errV ea k])
theorem Sl.nil0 (w : World) : Sl w none 0 0 [] := ⟨rfl, Nat.le_refl _, by unfold maxLen; omega, fun _ => rfl, fun i hi => by simp at hi⟩

set_option maxHeartbeats 1000000 in
theorem varintBody_any (ea : Nat → Addr) (a : Option Addr) (n c : Nat) (l : List UInt8) (f d : Int) (w0 w : World) (hs0 : Sl w0 a n c l) (E0 : Env w0 ea) (hB : Below w0.heap.size w0 w) :
    Calls Tryd.prog 65 #[.slice a n c, .int .i64 f, .int .i64 d] w (BodyPost ea (varBody l) w0 w) := by
  have hs := hs0.kept hB
  have E := E0.kept hB
  have HB := Lib.hid hB; clear hB
  cases hu : uv l with
  | er k =>
    have HR : Hid (varBody l = .er k) := Lib.hid (by unfold varBody; rw [hu])
    go_enter Tryd.func65, Tryd.ntmps65
    go_wp2_with fail
    refine (uv_no ea a n c l _ (hs.alloc _) (E.alloc _) k hu).mono ?_
    clear hu
    rintro e w' ⟨rfl, nq, rfl⟩
    go_wp2_with fail
    refine bodyPost_ret (v := .tuple #[.agg #[.int .u64 0, .slice none 0 0, .int .i64 0], errV ea k]) (by simp [results, Tryd.results65, go_sem]) rfl ?_
    refine ⟨?_, by rw [HR.out]⟩
    (repeat (first | exact Below.refl _ _ | assumption | (refine Below.setCell ?_ (by simp) _) | (refine bdN ?_ _) | (refine Below.drew ?_) | (refine Below.alloc ?_ (by simp) _)))
  | ok p =>
    obtain ⟨u, m⟩ := p
    have HR : Hid (varBody l = .ok (u, [], m)) := Lib.hid (by unfold varBody; rw [hu])
    go_enter Tryd.func65, Tryd.ntmps65
    go_wp2_with fail
    refine (uv_yes ea a n c l _ (hs.alloc _) (E.alloc _) u m hu).mono ?_
    clear hu
    rintro e w' ⟨rfl, nq, rfl⟩
    go_wp2_with fail
    refine bodyPost_ret (v := .tuple #[.agg #[.int .u64 u, .slice none 0 0, .int .i64 m], .nilIface]) (by simp [results, Tryd.results65, go_sem]) rfl ?_
    refine ⟨?_, by rw [HR.out]; exact ⟨_, _, _, rfl, Sl.nil0 _⟩⟩
    (repeat (first | exact Below.refl _ _ | assumption | (refine Below.setCell ?_ (by simp) _) | (refine bdN ?_ _) | (refine Below.drew ?_) | (refine Below.alloc ?_ (by simp) _)))

set_option maxHeartbeats 1000000 in
theorem endBody_any (ea : Nat → Addr) (a : Option Addr) (n c : Nat) (f d : Int) (w0 w : World) (E0 : Env w0 ea) (hB : Below w0.heap.size w0 w) :
    Calls Tryd.prog 68 #[.slice a n c, .int .i64 f, .int .i64 d] w (BodyPost ea (.er 104) w0 w) := by
  have E := E0.kept hB
  have HB := Lib.hid hB; clear hB
  have h4 := E.e104
  have h4' := (E.alloc (.cells #[.int .u64 0, .slice none 0 0, .int .i64 0] 106)).e104
  go_enter Tryd.func68, Tryd.ntmps68
  go_wp2
  go_region
  all_goals (try go_wp2)
  all_goals refine bodyPost_ret (v := .tuple #[.agg #[.int .u64 0, .slice none 0 0, .int .i64 0], errV ea 104]) (by simp [results, Tryd.results68, go_sem]) rfl ?_
  all_goals refine ⟨?_, rfl⟩
  all_goals (repeat (first | exact Below.refl _ _ | assumption | (refine Below.setCell ?_ (by simp) _) | (refine bdN ?_ _) | (refine Below.drew ?_) | (refine Below.alloc ?_ (by simp) _)))

set_option maxHeartbeats 1000000 in
theorem fixedBody1_any (ea : Nat → Addr) (a : Option Addr) (n c : Nat) (l : List UInt8) (f d : Int) (b : Nat) (k : Nat) (hk : k = 4 ∨ k = 8) (w0 w : World) (hs0 : Sl w0 a n c l) (E0 : Env w0 ea) (hB : Below w0.heap.size w0 w) (hb : w.cell? ⟨b, 0, none⟩ = some (.int .i64 (k : Int))) :
    Calls Tryd.prog 77 #[.slice a n c, .int .i64 f, .int .i64 d, .pointer (some ⟨b, 0, none⟩)] w (BodyPost ea (fixBody k l) w0 w) := by
  have hs := hs0.kept hB
  have E := E0.kept hB
  have HB := Lib.hid hB; clear hB
  have hlen := hs.len
  have hb' : ∀ o, (w.alloc o).cell? ⟨b, 0, none⟩ = some (.int .i64 (k : Int)) := fun o => (((Below.refl _ w).alloc (Nat.le_refl _) o).cell (p := ⟨b, 0, none⟩) (cell_lt hb)).trans hb
  by_cases hle : n < k
  · have HR : Hid (fixBody k l = .er 101) := Lib.hid (by unfold fixBody; rw [if_pos (by omega)])
    go_enter Tryd.func77, Tryd.ntmps77
    go_wp2_with fail
    refine (unfixed_short ea a n c l _ (hs.alloc _) (E.alloc _) k hk hle).mono ?_
    clear hk
    rintro e w' ⟨rfl, nq, rfl⟩
    go_wp2_with fail
    refine bodyPost_ret (v := .tuple #[.agg #[.int .u64 0, .slice none 0 0, .int .i64 0], errV ea 101]) (by simp [results, Tryd.results77, go_sem]) rfl ?_
    refine ⟨?_, by rw [HR.out]⟩
    (repeat (first | exact Below.refl _ _ | assumption | (refine Below.setCell ?_ (by simp) _) | (refine bdN ?_ _) | (refine Below.drew ?_) | (refine Below.alloc ?_ (by simp) _)))
  · have HR : Hid (fixBody k l = .ok (leNum (l.take k), [], k)) := Lib.hid (by unfold fixBody; rw [if_neg (by omega)])
    go_enter Tryd.func77, Tryd.ntmps77
    go_wp2_with fail
    refine (unfixed_ok a n c l _ (hs.alloc _) k hk (by omega)).mono ?_
    clear hk hlen
    rintro e w' ⟨rfl, rfl⟩
    go_wp2_with fail
    refine bodyPost_ret (v := .tuple #[.agg #[.int .u64 ((leNum (l.take k) : Nat) : Int), .slice none 0 0, .int .i64 k], .nilIface]) (by simp [results, Tryd.results77, go_sem]) rfl ?_
    refine ⟨?_, by rw [HR.out]; exact ⟨_, _, _, rfl, Sl.nil0 _⟩⟩
    (repeat (first | exact Below.refl _ _ | assumption | (refine Below.setCell ?_ (by simp) _) | (refine bdN ?_ _) | (refine Below.drew ?_) | (refine Below.alloc ?_ (by simp) _)))

set_option maxHeartbeats 1000000 in
theorem bytesBody_any (ea : Nat → Addr) (a : Option Addr) (n c : Nat) (l : List UInt8) (f d : Int) (w0 w : World) (hs0 : Sl w0 a n c l) (E0 : Env w0 ea) (hB : Below w0.heap.size w0 w) :
    Calls Tryd.prog 67 #[.slice a n c, .int .i64 f, .int .i64 d] w (BodyPost ea (bytBody l) w0 w) := by
  have hs := hs0.kept hB
  have E := E0.kept hB
  have HB := Lib.hid hB; clear hB
  have hln := Lib.hid hs.len
  have hnine := hs.nine
  cases hu : uv l with
  | er k =>
    have HR : Hid (bytBody l = .er k) := Lib.hid (by unfold bytBody; rw [hu])
    go_enter Tryd.func67, Tryd.ntmps67
    go_wp2_with fail
    refine (uv_no ea a n c l _ (hs.alloc _) (E.alloc _) k hu).mono ?_
    clear hu
    rintro e w' ⟨rfl, nq, rfl⟩
    go_wp2_with fail
    refine bodyPost_ret (v := .tuple #[.agg #[.int .u64 0, .slice none 0 0, .int .i64 0], errV ea k]) (by simp [results, Tryd.results67, go_sem]) rfl ?_
    refine ⟨?_, by rw [HR.out]⟩
    (repeat (first | exact Below.refl _ _ | assumption | (refine Below.setCell ?_ (by simp) _) | (refine bdN ?_ _) | (refine Below.drew ?_) | (refine Below.alloc ?_ (by simp) _)))
  | ok p =>
    obtain ⟨u, m⟩ := p
    have hub := uv_ok hu
    have hmn : m ≤ n := by have := hln.out; omega
    have hu6 : u ≤ 18446744073709551615 := hub.2.2.2
    clear hub
    by_cases hlt : n - m < u
    · have HR : Hid (bytBody l = .er 101) := Lib.hid (by unfold bytBody; rw [hu]; simp only [hln.out]; rw [if_pos hlt])
      have hg1 : (1 : Nat) < w.heap.size := cell_lt E.e101
      have hg2 : ¬ (1 : Nat) = w.heap.size := by omega
      have hg3 : ¬ w.heap.size = (1 : Nat) := by omega
      have h1 := E.e101
      have h1' := ((E.alloc (.cells #[.int .u64 0, .slice none 0 0, .int .i64 0] 106))).e101
      go_enter Tryd.func67, Tryd.ntmps67
      go_wp2_with fail
      refine (uv_yes ea a n c l _ (hs.alloc _) (E.alloc _) u m hu).mono ?_
      clear hu
      rintro e w' ⟨rfl, nq, rfl⟩
      go_wp2_with fail
      go_region
      all_goals (try go_wp2)
      all_goals refine bodyPost_ret (v := .tuple #[.agg #[.int .u64 0, .slice none 0 0, .int .i64 0], errV ea 101]) (by simp [results, Tryd.results67, go_sem]) rfl ?_
      all_goals refine ⟨?_, by rw [HR.out]⟩
      all_goals (repeat (first | exact Below.refl _ _ | assumption | (refine Below.setCell ?_ (by simp) _) | (refine bdN ?_ _) | (refine Below.drew ?_) | (refine Below.alloc ?_ (by simp) _)))
    · have HR : Hid (bytBody l = .ok (0, (l.drop m).take u, m + u)) := Lib.hid (by unfold bytBody; rw [hu]; simp only [hln.out]; rw [if_neg hlt])
      have hle := hs.le
      have hsl := fun W => slice_lh a n c (m : Int) ((m : Int) + (u : Int)) (by omega) (by omega) (by omega) u (c - m) (by omega) (by omega) m (by omega) W
      go_enter Tryd.func67, Tryd.ntmps67
      go_wp2_with fail
      refine (uv_yes ea a n c l _ (hs.alloc _) (E.alloc _) u m hu).mono ?_
      clear hu
      rintro e w' ⟨rfl, nq, rfl⟩
      go_wp2_with fail
      refine bodyPost_ret (v := .tuple #[.agg #[.int .u64 0, .slice (partAt a c m) u (c - m), .int .i64 ((m + u : Nat) : Int)], .nilIface]) (by simp [results, Tryd.results67, go_sem]) rfl ?_
      generalize hW : World.setCell _ _ _ = W
      have hBW : Below w.heap.size w W := by
        rw [← hW]
        (repeat (first | exact Below.refl _ _ | assumption | (refine Below.setCell ?_ (by simp) _) | (refine bdN ?_ _) | (refine Below.drew ?_) | (refine Below.alloc ?_ (by simp) _)))
      refine ⟨hBW, ?_⟩
      rw [HR.out]
      exact ⟨_, _, _, rfl, sl_part hs0 m u (by omega) _ rfl⟩
end Go.Proofs.YtclnmajjkchfmaaDoor
