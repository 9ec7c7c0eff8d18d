/-
  CONTRACTS: groups of any depth; own; walk under a function that always goes on; Next; Check; fitsGroup.
-/
import Derived.Test.YtclnmajjkchfmaaDoorI
import Derived.Test.YtclnmajjkchfmaaDoorMc
namespace Go.Proofs.YtclnmajjkchfmaaDoor
open Go.RowKit Wr

theorem group_all (ea : Nat → Addr) (w0 : World) (mb b8 b4 : Nat) (E0 : Env w0 ea) (R0 : Readers w0 mb b8 b4) : ∀ d depth, depth + d = 32 → GroupSaid ea w0 mb d depth
  | 0, depth, h => by
    obtain rfl : depth = 32 := by omega
    exact group_zero ea w0 mb E0
  | d + 1, depth, h => group_succ ea w0 mb b8 b4 E0 R0 d depth (by omega) (group_all ea w0 mb b8 b4 E0 R0 d (depth + 1) (by omega))

theorem rec_any (ea : Nat → Addr) (w0 : World) (mb b8 b4 : Nat) (E0 : Env w0 ea) (R0 : Readers w0 mb b8 b4) (d depth : Nat) (h : depth + d = 32)
    (a : Option Addr) (n c : Nat) (l : List UInt8) (hs0 : Sl w0 a n c l) (w : World) (hB : Below w0.heap.size w0 w) :
    Calls Tryd.prog 51 #[.map (some mb), .slice a n c, .int .i64 (depth : Int)] w (RecPost ea (rec d l) w0 w) :=
  record_any E0 R0 (group_all ea w0 mb b8 b4 E0 R0 d depth h) a n c l hs0 w hB

/-- What walk answers. -/
def WalkPost (ea : Nat → Addr) (r : Option (Nat × Nat)) (w : World) (e : Ending) (w' : World) : Prop :=
  Below w.heap.size w w' ∧ match r with
    | none => e = .returned (.tuple #[.int .i64 0, .nilIface])
    | some (i, k) => e = .returned (.tuple #[.int .i64 (i : Int), errV ea k])

def YieldTrue (Fy : Nat) : Prop := ∀ (W : World) (x : Int) (f k : Int) (u : Int) (s : Value), Calls Tryd.prog Fy #[.int .i64 x, .agg #[.int .i64 f, .int .i64 k, .int .u64 u, s]] W fun e w' => e = .returned (.bool true) ∧ Below W.heap.size W w'

set_option maxRecDepth 100000 in
set_option maxHeartbeats 4000000 in
theorem walk_true (ea : Nat → Addr) (w0 : World) (mb b8 b4 : Nat) (E0 : Env w0 ea) (R0 : Readers w0 mb b8 b4) (d depth : Nat) (h : depth + d = 32)
    (a : Option Addr) (n c : Nat) (l : List UInt8) (hs0 : Sl w0 a n c l) (Fy : Nat) (hF : ∀ (args : Array Value) (W : World), (callFunc Fy args).run Tryd.prog W = .ok (.enter Fy args) W) (hy : YieldTrue Fy) (w : World) (hB : Below w0.heap.size w0 w) :
    Calls Tryd.prog 54 #[.map (some mb), .slice a n c, .int .i64 (depth : Int), .func (.func Fy) #[] #[]] w (WalkPost ea (chk d l (l.length + 1) 0) w) := by
  have hlen := hs0.len
  have hle := hs0.le
  have hnine := hs0.nine
  generalize hR : chk d l (l.length + 1) 0 = res
  have HR := Lib.hid hR; clear hR
  have HY := Lib.hid hy; clear hy
  go_enter Tryd.func54, Tryd.ntmps54
  go_wp2
  go_loopw [10] (fun s10 wr => ∃ i : Nat, s10 = .int .i64 i ∧ i ≤ l.length ∧ (∃ fuel, l.length + 1 ≤ fuel + i ∧ Hid (res = chk d l fuel i)) ∧ Below w0.heap.size w0 wr ∧ Below w.heap.size w wr)
    (fun s10 _ => l.length + 1 - (intOf s10).toNat)
  case atStart => exact ⟨0, rfl, by omega, ⟨l.length + 1, by omega, Lib.hid HR.out.symm⟩, hB, Below.refl _ _⟩
  case round =>
    obtain ⟨i, rfl, hi, ⟨fuel, hfu, hch⟩, hBr, hB2⟩ := hrel
    have hzr := hB2.size
    by_cases hlt : i < n
    · obtain ⟨fuel', rfl⟩ : ∃ q, fuel = q + 1 := ⟨fuel - 1, by omega⟩
      have hsl := fun W => slice_l a n c (i : Int) (by omega) (by omega) (n - i) (c - i) (by omega) (by omega) i (by omega) W
      have hsub : Sl w0 (partAt a c i) (n - i) (c - i) (l.drop i) := sl_part hs0 i (n - i) (by omega) _ (by rw [List.take_of_length_le (by simp; omega)])
      have hrec := (rec_any ea w0 mb b8 b4 E0 R0 d depth h _ _ _ _ hsub wr hBr)
      cases hr : rec d (l.drop i) with
      | er k =>
        have HG : Hid (res = some (i, k)) := Lib.hid (by rw [hch.out, chk, if_pos (by omega), hr])
        rw [hr] at hrec
        have HC := Lib.hid hrec; clear hrec hr hch
        go_wp2_with fail
        refine HC.out.mono ?_
        rintro e w1 ⟨hb1, rfl⟩
        have hz1 := hb1.size
        go_wp2_with fail
        go_ret2
        refine ⟨?_, by rw [HG.out]; rfl⟩
        exact (hB2.trans (hb1.mono (by omega))).alloc (by omega) _
      | ok p =>
        obtain ⟨r, m⟩ := p
        have hb := rec_ok hr
        rw [List.length_drop] at hb
        have HG : Hid (res = chk d l fuel' (i + m)) := Lib.hid (by rw [hch.out, chk, if_pos (by omega), hr])
        rw [hr] at hrec
        have HC := Lib.hid hrec; clear hrec hr hch
        go_wp2_with fail
        refine HC.out.mono ?_
        rintro e w1 ⟨hb1, a1, m1, c1, rfl, hs1⟩
        have hz1 := hb1.size
        go_wp2_with fail
        refine (HY.out _ _ _ _ _ _).mono ?_
        rintro e w2 ⟨rfl, hb2⟩
        have hz2 := hb2.size
        go_wp2_with fail
        have q2 : Below wr.heap.size wr w2 := (hb1.alloc (by omega) _).trans (hb2.mono (by simp; omega))
        refine ⟨⟨i + m, by go_num, by omega, ⟨fuel', by omega, HG⟩, hBr.trans (q2.mono (hBr.size)), hB2.trans (q2.mono (by omega))⟩, by simp [intOf]; omega⟩
    · have HG : Hid (res = none) := Lib.hid (by rw [hch.out, chk_end (by omega)])
      clear hch
      go_wp2
      go_ret2
      exact ⟨hB2, by rw [HG.out]; rfl⟩

/-- New bytes in a record. -/
def OwnPost (f k u : Int) (l : List UInt8) (w : World) (e : Ending) (w' : World) : Prop :=
  Below w.heap.size w w' ∧ ∃ a N c, e = .returned (.agg #[.int .i64 f, .int .i64 k, .int .u64 u, .slice a N c]) ∧ Hid (N = l.length) ∧ Own w' w.heap.size (.slice a N c) l

set_option maxHeartbeats 1000000 in
theorem own_any (a : Option Addr) (n c : Nat) (l : List UInt8) (f k u : Int) (w : World) (hs : Sl w a n c l) (hn : n ≤ 140737488355328) :
    Calls Tryd.prog 52 #[.agg #[.int .i64 f, .int .i64 k, .int .u64 u, .slice a n c]] w (OwnPost f k u l w) := by
  have hs1 := (hs.alloc (.cells #[.int .i64 f, .int .i64 k, .int .u64 u, .slice a n c] 53)).alloc (.cells #[.int .i64 0, .int .i64 0, .int .u64 0, .slice none 0 0] 53)
  go_enter Tryd.func52, Tryd.ntmps52
  go_wp2_with (at_builtin; refine wp_append_bytes rfl _ _ rfl _ [] l rfl (w.heap.size + 2) (Own.nil _ _) a n c rfl hs1 (by simp; omega) (by simp) ?_; intro w2 ad2 N2 c2 hN2 hown2 hb2; have hcc := (fun b o (h : b < w.heap.size + 2) => hb2.cell (p := ⟨b, o, none⟩) h); have hff := (fun b o (h : b < w.heap.size + 2) => hb2.frozen (p := ⟨b, o, none⟩) h); have hz2 := hb2.size; simp only [World.size_alloc] at hz2)
  refine bodyPost_ret (v := .agg #[.int .i64 f, .int .i64 k, .int .u64 u, .slice ad2 N2 c2]) (by simp [results, Tryd.results52, go_sem, hcc]) rfl ?_
  refine ⟨?_, _, _, _, rfl, hN2, ?_⟩
  · have hq : Below w.heap.size w w2 := Below.trans (((Below.refl _ w).alloc (Nat.le_refl _) _).alloc (by simp) _) (hb2.mono (by omega))
    (repeat (first | (with_reducible refine Below.setCell ?_ (by dsimp only; omega) _) | (with_reducible refine bdN ?_ _) | (with_reducible refine Below.drew ?_) | (with_reducible refine Below.alloc ?_ (by first | omega | (simp; omega)) _) | (with_reducible exact hq)))
  · refine Own.mono (B := w.heap.size + 2) ?_ (by omega)
    exact ownsRow_setCell_below (ownsRow_setCell_below (ownsRow_setCell_below (ownsRow_setCell_below (ownsRow_setCell_below hown2 (by simp) _) (by simp) _) (by simp) _) (by simp) _) (by simp) _

/-- What Next answers. -/
def NextPost (ea : Nat → Addr) (r : Res (Rec × Nat)) (w : World) (e : Ending) (w' : World) : Prop :=
  Below w.heap.size w w' ∧ match r with
    | .ok (r, n) => ∃ a m c, e = .returned (.tuple #[.agg #[.int .i64 (r.field : Int), .int .i64 (r.kind : Int), .int .u64 (r.u : Int), .slice a m c], .int .i64 (n : Int), .nilIface]) ∧ Hid (m = r.b.length) ∧ Own w' w.heap.size (.slice a m c) r.b
    | .er k => e = .returned (.tuple #[.agg #[.int .i64 0, .int .i64 0, .int .u64 0, .slice none 0 0], .int .i64 0, errV ea k])

set_option maxRecDepth 100000 in
set_option maxHeartbeats 2000000 in
theorem next_any (ea : Nat → Addr) (a : Option Addr) (n c : Nat) (l : List UInt8) (w : World) (hs : Sl w a n c l) (E : Env w ea) (hn : n ≤ 70368744177664) :
    Calls Tryd.prog 33 #[.slice a n c] w (NextPost ea (rec 32 l) w) := by
  have hlen := hs.len
  have hB1 : Below w.heap.size w (w.alloc rec0) := (Below.refl _ _).alloc (Nat.le_refl _) _
  go_enter Tryd.func33, Tryd.ntmps33
  go_wp2_with fail
  refine (newReaders_any _).mono ?_
  rintro e w1 ⟨mb, b8, b4, rfl, R, hb1⟩
  have hbx : Below w.heap.size w w1 := hB1.trans (hb1.mono (by simp))
  have hs1 := hs.kept hbx
  have E1 := E.kept hbx
  have hk : ∀ i v, (#[.int .i64 0, .int .i64 0, .int .u64 0, .slice none 0 0] : Array Value)[i]? = some v → w1.cell? ⟨w.heap.size, i, none⟩ = some v := fun i v h => (hb1.cell (p := ⟨w.heap.size, i, none⟩) (by simp)).trans (by rw [← h]; simp)
  have hkf : ∀ i, w1.frozen? ⟨w.heap.size, i, none⟩ = false := fun i => (hb1.frozen (p := ⟨w.heap.size, i, none⟩) (by simp)).trans (by simp)
  have hz1 := hb1.size
  simp only [World.size_alloc] at hz1
  have hrec := rec_any ea w1 mb b8 b4 E1 R 32 0 rfl a n c l hs1 w1 (Below.refl _ _)
  cases hr : rec 32 l with
  | er k =>
    rw [hr] at hrec
    have HC := Lib.hid hrec; have HQ := Lib.hid hr; clear hrec hr
    go_wp2_with fail
    refine HC.out.mono ?_
    rintro e w2 ⟨hb2, rfl⟩
    have hz2 := hb2.size
    have k0 := (hb2.cell (p := ⟨w.heap.size, 0, none⟩) (by dsimp only; omega)).trans (hk 0 (.int .i64 0) rfl)
    have k1 := (hb2.cell (p := ⟨w.heap.size, 1, none⟩) (by dsimp only; omega)).trans (hk 1 (.int .i64 0) rfl)
    have k2 := (hb2.cell (p := ⟨w.heap.size, 2, none⟩) (by dsimp only; omega)).trans (hk 2 (.int .u64 0) rfl)
    have k3 := (hb2.cell (p := ⟨w.heap.size, 3, none⟩) (by dsimp only; omega)).trans (hk 3 (.slice none 0 0) rfl)
    have kf : ∀ i, w2.frozen? ⟨w.heap.size, i, none⟩ = false := fun i => (hb2.frozen (p := ⟨w.heap.size, i, none⟩) (by dsimp only; omega)).trans (hkf i)
    have hlt : w.heap.size < w2.heap.size := by omega
    have hlt' : w.heap.size < w2.heap.size + 1 := by omega
    have hne : ¬ w.heap.size = w2.heap.size := by omega
    have hne' : ¬ w2.heap.size = w.heap.size := by omega
    clear hk hkf
    go_wp2_with fail
    refine bodyPost_ret (v := .tuple #[.agg #[.int .i64 0, .int .i64 0, .int .u64 0, .slice none 0 0], .int .i64 0, errV ea k]) (by simp [results, Tryd.results33, go_sem, k0, k1, k2, k3, hlt, hne, hne']) rfl ?_
    refine ⟨?_, by rw [HQ.out]⟩
    have hq : Below w.heap.size w w2 := hbx.trans (hb2.mono (by omega))
    (repeat (first | (with_reducible refine Below.setCell ?_ (by dsimp only; omega) _) | (with_reducible refine bdN ?_ _) | (with_reducible refine Below.drew ?_) | (with_reducible refine Below.alloc ?_ (by first | omega | (simp; omega)) _) | (with_reducible exact hq)))
  | ok p =>
    obtain ⟨r, m⟩ := p
    have hro := rec_ok hr
    rw [hr] at hrec
    have HC := Lib.hid hrec; have HQ := Lib.hid hr; clear hrec hr
    go_wp2_with fail
    refine HC.out.mono ?_
    rintro e w2 ⟨hb2, a2, m2, c2, rfl, hs2⟩
    have hz2 := hb2.size
    have hlt : w.heap.size < w2.heap.size := by omega
    have hm2 : m2 ≤ 70368744177664 := by have := hs2.len; omega
    have hs3 := (hs2.kept hb2).alloc (.cells #[.int .i64 (r.field : Int), .int .i64 (r.kind : Int), .int .u64 (r.u : Int), .slice a2 m2 c2] 53)
    have hro' := Lib.hid hro; clear hro
    go_wp2_with fail
    refine (own_any _ _ _ _ _ _ _ _ hs3 (by omega)).mono ?_
    rintro e w3 ⟨hb3, a3, m3, c3, rfl, hm3, hown3⟩
    have hz3 := hb3.size
    simp only [World.size_alloc] at hz3
    have hb4 : Below w2.heap.size w2 w3 := Below.trans ((Below.refl _ w2).alloc (Nat.le_refl _) _) (hb3.mono (by simp))
    have hk4 : ∀ i v, (#[.int .i64 0, .int .i64 0, .int .u64 0, .slice none 0 0] : Array Value)[i]? = some v → w3.cell? ⟨w.heap.size, i, none⟩ = some v := fun i v h => (hb4.cell (p := ⟨w.heap.size, i, none⟩) hlt).trans ((hb2.cell (p := ⟨w.heap.size, i, none⟩) (by dsimp only; omega)).trans (hk i v h))
    have k0 := hk4 0 (.int .i64 0) rfl
    have k1 := hk4 1 (.int .i64 0) rfl
    have k2 := hk4 2 (.int .u64 0) rfl
    have k3 := hk4 3 (.slice none 0 0) rfl
    have kf : ∀ i, w3.frozen? ⟨w.heap.size, i, none⟩ = false := fun i => (hb4.frozen (p := ⟨w.heap.size, i, none⟩) hlt).trans ((hb2.frozen (p := ⟨w.heap.size, i, none⟩) (by dsimp only; omega)).trans (hkf i))
    clear hk hkf hk4
    go_wp2_with fail
    refine bodyPost_ret (v := .tuple #[.agg #[.int .i64 (r.field : Int), .int .i64 (r.kind : Int), .int .u64 (r.u : Int), .slice a3 m3 c3], .int .i64 (m : Int), .nilIface]) (by simp [results, Tryd.results33, go_sem, k0, k1, k2, k3]) rfl ?_
    refine ⟨?_, ?_⟩
    · have hq : Below w.heap.size w w3 := (hbx.trans (hb2.mono (by omega))).trans (hb4.mono (by omega))
      (repeat (first | (with_reducible refine Below.setCell ?_ (by dsimp only; omega) _) | (with_reducible refine bdN ?_ _) | (with_reducible refine Below.drew ?_) | (with_reducible refine Below.alloc ?_ (by first | omega | (simp; omega)) _) | (with_reducible exact hq)))
    · rw [HQ.out]
      refine ⟨_, _, _, rfl, hm3, ?_⟩
      refine Own.mono (B := w2.heap.size + 1) ?_ (by omega)
      have hown3' : Own w3 (w2.heap.size + 1) (.slice a3 m3 c3) r.b := by simpa using hown3
      exact ownsRow_setCell_below (ownsRow_setCell_below (ownsRow_setCell_below (ownsRow_setCell_below hown3' (by dsimp only; omega) _) (by dsimp only; omega) _) (by dsimp only; omega) _) (by dsimp only; omega) _

theorem yt1 : YieldTrue 55 := by
  intro W x f k u s
  go_enter Tryd.func55, Tryd.ntmps55
  go_wp2
  go_ret
  exact ⟨rfl, (Below.refl _ _).alloc (Nat.le_refl _) _⟩
theorem yt2 : YieldTrue 76 := by
  intro W x f k u s
  go_enter Tryd.func76, Tryd.ntmps76
  go_wp2
  go_ret
  exact ⟨rfl, (Below.refl _ _).alloc (Nat.le_refl _) _⟩
theorem cf5 (args : Array Value) (W : World) : (callFunc 55 args).run Tryd.prog W = .ok (.enter 55 args) W := by kernel_rfl
theorem cf6 (args : Array Value) (W : World) : (callFunc 76 args).run Tryd.prog W = .ok (.enter 76 args) W := by kernel_rfl

/-- What Check answers. -/
def CheckPost (ea : Nat → Addr) (r : Option (Nat × Nat)) (w : World) (e : Ending) (w' : World) : Prop :=
  Below w.heap.size w w' ∧ match r with
    | none => e = .returned .nilIface
    | some (i, k) => ∃ g, e = .returned (.iface 92 (.pointer (some ⟨g, 0, none⟩))) ∧ w'.cell? ⟨g, 0, none⟩ = some (.int .i64 (i : Int)) ∧ w'.cell? ⟨g, 1, none⟩ = some (errV ea k)

set_option maxRecDepth 100000 in
set_option maxHeartbeats 2000000 in
theorem check_any (ea : Nat → Addr) (a : Option Addr) (n c : Nat) (l : List UInt8) (w : World) (hs : Sl w a n c l) (E : Env w ea) :
    Calls Tryd.prog 35 #[.slice a n c] w (CheckPost ea (check l) w) := by
  go_enter Tryd.func35, Tryd.ntmps35
  go_wp2_with fail
  refine (newReaders_any _).mono ?_
  rintro e w1 ⟨mb, b8, b4, rfl, R, hb1⟩
  have hs1 := hs.kept hb1
  have E1 := E.kept hb1
  have hz1 := hb1.size
  have hw := walk_true ea w1 mb b8 b4 E1 R 32 0 rfl a n c l hs1 _ cf5 yt1 w1 (Below.refl _ _)
  cases hr : check l with
  | none =>
    rw [show chk 32 l (l.length + 1) 0 = none from hr] at hw
    have HC := Lib.hid hw; have HQ := Lib.hid hr; clear hw hr
    go_wp2_with fail
    refine HC.out.mono ?_
    rintro e w2 ⟨hb2, rfl⟩
    go_wp2_with fail
    go_ret
    exact ⟨hb1.trans (hb2.mono hz1), by rw [HQ.out]; rfl⟩
  | some p =>
    obtain ⟨i, k⟩ := p
    rw [show chk 32 l (l.length + 1) 0 = some (i, k) from hr] at hw
    have HC := Lib.hid hw; have HQ := Lib.hid hr; clear hw hr
    go_wp2_with fail
    refine HC.out.mono ?_
    rintro e w2 ⟨hb2, rfl⟩
    have hz2 := hb2.size
    go_wp2_with fail
    go_ret
    exact ⟨(hb1.trans (hb2.mono hz1)).alloc (by omega) _, by rw [HQ.out]; exact ⟨_, rfl, by simp, by simp⟩⟩

set_option maxRecDepth 100000 in
set_option maxHeartbeats 2000000 in
theorem fits_any (ea : Nat → Addr) (a : Option Addr) (n c : Nat) (l : List UInt8) (w : World) (hs : Sl w a n c l) (E : Env w ea) :
    Calls Tryd.prog 61 #[.slice a n c] w fun e w' => e = .returned (.bool (chk 31 l (l.length + 1) 0).isNone) ∧ Below w.heap.size w w' := by
  go_enter Tryd.func61, Tryd.ntmps61
  go_wp2_with fail
  refine (newReaders_any _).mono ?_
  rintro e w1 ⟨mb, b8, b4, rfl, R, hb1⟩
  have hs1 := hs.kept hb1
  have E1 := E.kept hb1
  have hz1 := hb1.size
  have hw := walk_true ea w1 mb b8 b4 E1 R 31 1 rfl a n c l hs1 _ cf6 yt2 w1 (Below.refl _ _)
  cases hr : chk 31 l (l.length + 1) 0 with
  | none =>
    rw [hr] at hw
    have HC := Lib.hid hw; have HQ := Lib.hid hr; clear hw hr
    go_wp2_with fail
    refine HC.out.mono ?_
    rintro e w2 ⟨hb2, rfl⟩
    go_wp2_with fail
    go_ret
    exact ⟨by rw [HQ.out]; rfl, hb1.trans (hb2.mono hz1)⟩
  | some p =>
    obtain ⟨i, k⟩ := p
    rw [hr] at hw
    have HC := Lib.hid hw; have HQ := Lib.hid hr; clear hw hr
    go_wp2_with fail
    refine HC.out.mono ?_
    rintro e w2 ⟨hb2, rfl⟩
    go_wp2_with fail
    go_ret
    exact ⟨by rw [HQ.out]; rfl, hb1.trans (hb2.mono hz1)⟩
end Go.Proofs.YtclnmajjkchfmaaDoor
