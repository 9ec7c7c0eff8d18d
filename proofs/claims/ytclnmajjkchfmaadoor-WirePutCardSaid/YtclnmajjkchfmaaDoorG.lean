/-
  CONTRACTS: record, groupBody.
-/
import Derived.Test.YtclnmajjkchfmaaDoorF
import Derived.Deep.RegionWith
import Derived.Deep.DeepCutAuto
import Derived.Deep.CutRange
import Derived.Deep.LoopGhost
namespace Go.Proofs.YtclnmajjkchfmaaDoor
open Go.RowKit Wr

/-- What record answers, in the world w; what it was handed lies in w0. -/
def RecPost (ea : Nat → Addr) (r : Res (Rec × Nat)) (w0 w : World) (e : Ending) (w' : World) : Prop :=
  Below w.heap.size w w' ∧ match r with
    | .ok (r, n) => ∃ a m c, e = .returned (.tuple #[.agg #[.int .i64 (r.field : Int), .int .i64 (r.kind : Int), .int .u64 (r.u : Int), .slice a m c], .int .i64 (n : Int), .nilIface]) ∧ Sl w0 a m c r.b
    | .er k => e = .returned (.tuple #[.agg #[.int .i64 0, .int .i64 0, .int .u64 0, .slice none 0 0], .int .i64 0, errV ea k])

theorem readTag_yes (ea : Nat → Addr) (a : Option Addr) (n c : Nat) (l : List UInt8) (w : World) (hs : Sl w a n c l) (E : Env w ea) (f k m : Nat) (h : readTag l = .ok (f, k, m)) :
    Calls Tryd.prog 70 #[.slice a n c] w (Drawn (.returned (.tuple #[.int .i64 (f : Int), .int .i64 (k : Int), .int .i64 (m : Int), .nilIface])) w) :=
  (readTag_any ea a n c l w hs E).mono fun e w' ⟨h1, h2⟩ => by rw [h] at h2; exact ⟨h2, h1⟩
theorem readTag_no (ea : Nat → Addr) (a : Option Addr) (n c : Nat) (l : List UInt8) (w : World) (hs : Sl w a n c l) (E : Env w ea) (k : Nat) (h : readTag l = .er k) :
    Calls Tryd.prog 70 #[.slice a n c] w (Drawn (.returned (.tuple #[.int .i64 0, .int .i64 0, .int .i64 0, errV ea k])) w) :=
  (readTag_any ea a n c l w hs E).mono fun e w' ⟨h1, h2⟩ => by rw [h] at h2; exact ⟨h2, h1⟩

abbrev rec0 : Obj := .cells #[.int .i64 0, .int .i64 0, .int .u64 0, .slice none 0 0] 53
/-- What a reader's call leaves: a cell of its own that bears the body. -/
def Got (u : Nat) (b : List UInt8) (s : Nat) (B : Nat) (w0 W0 : World) (g : Nat) (wx : World) : Prop :=
  ∃ a' m' c', wx.cell? ⟨g, 0, none⟩ = some (.int .u64 (u : Int)) ∧ wx.cell? ⟨g, 1, none⟩ = some (.slice a' m' c') ∧ wx.cell? ⟨g, 2, none⟩ = some (.int .i64 (s : Int)) ∧ Sl w0 a' m' c' b ∧ B ≤ g ∧ g < wx.heap.size ∧ Below B W0 wx
theorem undrew {B : Nat} {w w1 : World} (h : Below B w.drew w1) : Below B w w1 := ⟨h.os, h.tape, h.output, h.size, h.block⟩
theorem got_last {u : Nat} {b : List UInt8} {s : Nat} {B : Nat} {w0 W0 w1 : World} {a1 : Option Addr} {m1 c1 : Nat} (hs1 : Sl w0 a1 m1 c1 b) (hB : B ≤ W0.heap.size) (h : Below W0.drew.heap.size W0.drew w1) :
    Got u b s B w0 W0 w1.heap.size (w1.alloc (.cells #[.int .u64 (u : Int), .slice a1 m1 c1, .int .i64 (s : Int)] 106)) := by
  have h1 : Below B W0 w1 := (undrew h).mono hB
  have := h1.size
  exact ⟨a1, m1, c1, by simp, by simp, by simp, hs1, by omega, by simp, h1.alloc (by omega) _⟩
theorem got_first {u : Nat} {b : List UInt8} {s : Nat} {B : Nat} {w0 W0 w1 : World} {a1 : Option Addr} {m1 c1 : Nat} (hs1 : Sl w0 a1 m1 c1 b) (hB : B ≤ W0.heap.size)
    (h : Below (W0.alloc (.cells #[.int .u64 0, .slice none 0 0, .int .i64 0] 106)).drew.heap.size (W0.alloc (.cells #[.int .u64 0, .slice none 0 0, .int .i64 0] 106)).drew w1) :
    Got u b s B w0 W0 W0.heap.size (((w1.setCell ⟨W0.heap.size, 0, none⟩ (.int .u64 (u : Int))).setCell ⟨W0.heap.size, 1, none⟩ (.slice a1 m1 c1)).setCell ⟨W0.heap.size, 2, none⟩ (.int .i64 (s : Int))) := by
  have h1 := undrew h
  have hz := h1.size
  simp only [World.size_alloc, World.size_drew] at hz h1
  have hc : ∀ i v, (#[.int .u64 0, .slice none 0 0, .int .i64 0] : Array Value)[i]? = some v → w1.cell? ⟨W0.heap.size, i, none⟩ = some v := fun i v h =>
    (h1.cell (p := ⟨W0.heap.size, i, none⟩) (by simp)).trans (by rw [← h]; simp)
  have h0 := hc 0 _ rfl
  have h2 := hc 1 _ rfl
  have h3 := hc 2 _ rfl
  clear hc
  refine ⟨a1, m1, c1, ?_, ?_, ?_, hs1, hB, by simp only [World.size_setCell]; omega, ?_⟩
  · simp [go_sem, h0, h2, h3]
  · simp [go_sem, h0, h2, h3]
  · simp [go_sem, h0, h2, h3]
  · have : Below B W0 w1 := ((Below.refl B W0).alloc hB _).trans (h1.mono (by omega))
    exact ((this.setCell hB _).setCell hB _).setCell hB _


set_option maxRecDepth 100000 in
set_option maxHeartbeats 2000000 in
theorem record_a_ok (ea : Nat → Addr) (mb bp : Nat) (a : Option Addr) (n c : Nat) (l : List UInt8) (w0 w : World) (hs0 : Sl w0 a n c l) (E0 : Env w0 ea) (hB : Below w0.heap.size w0 w) (d : Int)
    (f k m : Nat) (ht : readTag l = .ok (f, k, m)) (F : Nat) (u : Nat) (b : List UInt8) (s : Nat) (hms : m + s ≤ 9223372036854775807)
    (hF : ∀ (args : Array Value) (W : World), (callFunc F args).run Tryd.prog W = .ok (.enter F args) W)
    (hlook : ∀ W, Below w0.heap.size w0 W → (Instr.lookup 84 (.map (some mb)) (.int .i64 (k : Int)) false).run Tryd.prog W = .ok (.func (.func F) #[] #[]) W)
    (hcall : ∀ W, Below w0.heap.size w0 W → Calls Tryd.prog F #[.slice (partAt a c m) (n - m) (c - m), .int .i64 (f : Int), .int .i64 d] W (BodyPost ea (.ok (u, b, s)) w0 W)) :
    Calls Tryd.prog 51 #[.map (some mb), .slice a n c, .int .i64 d] w (RecPost ea (.ok (⟨f, k, u, b⟩, m + s)) w0 w) := by
  have hs := hs0.kept hB
  have E := E0.kept hB
  have hz := hB.size
  have hr := readTag_ok ht
  have hmn : m ≤ n := by have := hs.len; omega
  have hsl := fun W => slice_l a n c (m : Int) (by omega) (by omega) (n - m) (c - m) (by omega) (by omega) m (by omega) W
  clear hr
  go_enter Tryd.func51, Tryd.ntmps51
  go_wp2_with fail
  refine (readTag_yes ea a n c l _ (hs.alloc _) (E.alloc _) f k m ht).mono ?_
  clear ht
  rintro e w' ⟨rfl, nq, rfl⟩
  have hBw : Below w.heap.size w ((w.alloc rec0).drewN nq) := bdN ((Below.refl _ _).alloc (Nat.le_refl _) _) _
  have hB0 : Below w0.heap.size w0 ((w.alloc rec0).drewN nq) := bdN (hB.alloc hz _) _
  have hS0 : ((w.alloc rec0).drewN nq).heap.size = w.heap.size + 1 := by simp
  have hc0 : ∀ i v, (#[.int .i64 0, .int .i64 0, .int .u64 0, .slice none 0 0] : Array Value)[i]? = some v → ((w.alloc rec0).drewN nq).cell? ⟨w.heap.size, i, none⟩ = some v := by intro i v h; rw [← h]; simp
  have hf0 : ∀ i, ((w.alloc rec0).drewN nq).frozen? ⟨w.heap.size, i, none⟩ = false := by intro i; simp
  go_upto_region 4 with fail
  generalize ((w.alloc rec0).drewN nq) = W0 at hBw hB0 hS0 hc0 hf0 ⊢
  have HZ0 := Lib.hid hS0
  have hlt0 : w.heap.size < W0.heap.size := by omega
  have hlt1 : w0.heap.size ≤ W0.heap.size := by omega
  clear hS0 hB
  have hl1 := hlook W0.drew hB0.drew
  have hl2 := fun o => hlook (W0.drew.alloc o) (hB0.drew.alloc (by simp; omega) o)
  have hl3 := fun o => hlook (W0.alloc o).drew ((hB0.alloc (by omega) o).drew)
  clear hlook
  have HC := Lib.hid hcall; clear hcall
  go_cut [12, 13] (fun s12 s13 wx => ∃ g, s12 = .nilIface ∧ s13 = .pointer (some ⟨g, 0, none⟩) ∧ Got u b s (w.heap.size + 1) w0 W0 g wx)
  case first =>
    go_region_with (first | (refine (HC.out _ (by repeat (first | exact hB0 | (refine Below.drew ?_) | (refine Below.alloc ?_ (by first | omega | (simp; omega)) _) | (refine bdN ?_ _)))).mono ?_; rintro e w1 ⟨hb1, a1, m1, c1, rfl, hs1⟩; obtain ⟨hc1, hf1⟩ := bcell hb1; have hz1 := hb1.size; simp only [World.size_drew, World.size_alloc] at hz1))
    all_goals (go_wp2_with fail; go_meet)
    · exact ⟨_, rfl, rfl, got_last (by assumption) (by omega) (by assumption)⟩
    · exact ⟨_, rfl, rfl, got_first (by assumption) (by omega) (by assumption)⟩
    · exact ⟨_, rfl, rfl, got_first (by assumption) (by omega) (by assumption)⟩
  case rest =>
    obtain ⟨g, rfl, rfl, a', m', c', g0, g1, g2, hsl', hg, hgs, hB1⟩ := hcut
    have hk : ∀ i v, (#[.int .i64 0, .int .i64 0, .int .u64 0, .slice none 0 0] : Array Value)[i]? = some v → wc.cell? ⟨w.heap.size, i, none⟩ = some v := fun i v h => (hB1.cell (p := ⟨w.heap.size, i, none⟩) (by simp)).trans (hc0 i v h)
    have k0 := hk 0 (.int .i64 0) rfl
    have k1 := hk 1 (.int .i64 0) rfl
    have k2 := hk 2 (.int .u64 0) rfl
    have k3 := hk 3 (.slice none 0 0) rfl
    have kf : ∀ i, wc.frozen? ⟨w.heap.size, i, none⟩ = false := fun i => (hB1.frozen (p := ⟨w.heap.size, i, none⟩) (by simp)).trans (hf0 i)
    have hBx : Below w.heap.size w wc := hBw.trans (hB1.mono (by omega))
    have hne : ¬ w.heap.size = g := by omega
    have hne' : ¬ g = w.heap.size := by omega
    clear hk hc0 hf0 hl1 hl2 hl3 HC
    go_wp2
    go_region
    all_goals (try go_wp2)
    all_goals refine bodyPost_ret (v := .tuple #[.agg #[.int .i64 (f : Int), .int .i64 (k : Int), .int .u64 (u : Int), .slice a' m' c'], .int .i64 ((m + s : Nat) : Int), .nilIface]) (by simp [results, Tryd.results51, go_sem, k0, k1, k2, k3]) rfl ?_
    all_goals refine ⟨?_, _, _, _, rfl, hsl'⟩
    all_goals (repeat (first | exact Below.refl _ _ | assumption | (refine Below.setCell ?_ (by simp) _) | (refine bdN ?_ _) | (refine Below.drew ?_) | (refine Below.alloc ?_ (by simp) _)))

set_option maxRecDepth 100000 in
set_option maxHeartbeats 2000000 in
theorem record_a_er (ea : Nat → Addr) (mb bp : Nat) (a : Option Addr) (n c : Nat) (l : List UInt8) (w0 w : World) (hs0 : Sl w0 a n c l) (E0 : Env w0 ea) (hB : Below w0.heap.size w0 w) (d : Int)
    (f k m : Nat) (ht : readTag l = .ok (f, k, m)) (F : Nat) (x : Nat)
    (hF : ∀ (args : Array Value) (W : World), (callFunc F args).run Tryd.prog W = .ok (.enter F args) W)
    (hlook : ∀ W, Below w0.heap.size w0 W → (Instr.lookup 84 (.map (some mb)) (.int .i64 (k : Int)) false).run Tryd.prog W = .ok (.func (.func F) #[] #[]) W)
    (hcall : ∀ W, Below w0.heap.size w0 W → Calls Tryd.prog F #[.slice (partAt a c m) (n - m) (c - m), .int .i64 (f : Int), .int .i64 d] W (BodyPost ea (.er x) w0 W)) :
    Calls Tryd.prog 51 #[.map (some mb), .slice a n c, .int .i64 d] w (RecPost ea (.er x) w0 w) := by
  have hs := hs0.kept hB
  have E := E0.kept hB
  have hz := hB.size
  have hr := readTag_ok ht
  have hmn : m ≤ n := by have := hs.len; omega
  have hsl := fun W => slice_l a n c (m : Int) (by omega) (by omega) (n - m) (c - m) (by omega) (by omega) m (by omega) W
  clear hr
  go_enter Tryd.func51, Tryd.ntmps51
  go_wp2_with fail
  refine (readTag_yes ea a n c l _ (hs.alloc _) (E.alloc _) f k m ht).mono ?_
  clear ht
  rintro e w' ⟨rfl, nq, rfl⟩
  have hBw : Below w.heap.size w ((w.alloc rec0).drewN nq) := bdN ((Below.refl _ _).alloc (Nat.le_refl _) _) _
  have hB0 : Below w0.heap.size w0 ((w.alloc rec0).drewN nq) := bdN (hB.alloc hz _) _
  have hS0 : ((w.alloc rec0).drewN nq).heap.size = w.heap.size + 1 := by simp
  have hc0 : ∀ i v, (#[.int .i64 0, .int .i64 0, .int .u64 0, .slice none 0 0] : Array Value)[i]? = some v → ((w.alloc rec0).drewN nq).cell? ⟨w.heap.size, i, none⟩ = some v := by intro i v h; rw [← h]; simp
  have hf0 : ∀ i, ((w.alloc rec0).drewN nq).frozen? ⟨w.heap.size, i, none⟩ = false := by intro i; simp
  go_upto_region 4 with fail
  generalize ((w.alloc rec0).drewN nq) = W0 at hBw hB0 hS0 hc0 hf0 ⊢
  have HZ0 := Lib.hid hS0
  have hlt0 : w.heap.size < W0.heap.size := by omega
  have hlt1 : w0.heap.size ≤ W0.heap.size := by omega
  clear hS0 hB
  have hl1 := hlook W0.drew hB0.drew
  have hl2 := fun o => hlook (W0.drew.alloc o) (hB0.drew.alloc (by simp; omega) o)
  have hl3 := fun o => hlook (W0.alloc o).drew ((hB0.alloc (by omega) o).drew)
  clear hlook
  have HC := Lib.hid hcall; clear hcall
  go_cut [12, 13] (fun s12 s13 wx => ∃ g, s12 = errV ea x ∧ s13 = .pointer (some ⟨g, 0, none⟩) ∧ Got 0 [] 0 (w.heap.size + 1) w0 W0 g wx)
  case first =>
    go_region_with (first | (refine (HC.out _ (by repeat (first | exact hB0 | (refine Below.drew ?_) | (refine Below.alloc ?_ (by first | omega | (simp; omega)) _) | (refine bdN ?_ _)))).mono ?_; rintro e w1 ⟨hb1, rfl⟩; obtain ⟨hc1, hf1⟩ := bcell hb1; have hz1 := hb1.size; simp only [World.size_drew, World.size_alloc] at hz1))
    all_goals (go_wp2_with fail; go_meet)
    · exact ⟨_, rfl, rfl, got_last (Sl.nil0 w0) (by omega) (by assumption)⟩
    · exact ⟨_, rfl, rfl, got_first (Sl.nil0 w0) (by omega) (by assumption)⟩
    · exact ⟨_, rfl, rfl, got_first (Sl.nil0 w0) (by omega) (by assumption)⟩
  case rest =>
    obtain ⟨g, rfl, rfl, a', m', c', g0, g1, g2, hsl', hg, hgs, hB1⟩ := hcut
    have hk : ∀ i v, (#[.int .i64 0, .int .i64 0, .int .u64 0, .slice none 0 0] : Array Value)[i]? = some v → wc.cell? ⟨w.heap.size, i, none⟩ = some v := fun i v h => (hB1.cell (p := ⟨w.heap.size, i, none⟩) (by simp)).trans (hc0 i v h)
    have k0 := hk 0 (.int .i64 0) rfl
    have k1 := hk 1 (.int .i64 0) rfl
    have k2 := hk 2 (.int .u64 0) rfl
    have k3 := hk 3 (.slice none 0 0) rfl
    have kf : ∀ i, wc.frozen? ⟨w.heap.size, i, none⟩ = false := fun i => (hB1.frozen (p := ⟨w.heap.size, i, none⟩) (by simp)).trans (hf0 i)
    have hBx : Below w.heap.size w wc := hBw.trans (hB1.mono (by omega))
    have hne : ¬ w.heap.size = g := by omega
    have hne' : ¬ g = w.heap.size := by omega
    clear hk hc0 hf0 hl1 hl2 hl3 HC
    go_wp2
    refine bodyPost_ret (v := .tuple #[.agg #[.int .i64 0, .int .i64 0, .int .u64 0, .slice none 0 0], .int .i64 0, errV ea x]) (by simp [results, Tryd.results51, go_sem, k0, k1, k2, k3]) rfl ?_
    refine ⟨?_, rfl⟩
    (repeat (first | exact Below.refl _ _ | assumption | (refine Below.setCell ?_ (by simp) _) | (refine bdN ?_ _) | (refine Below.drew ?_) | (refine Below.alloc ?_ (by simp) _)))

set_option maxRecDepth 100000 in
set_option maxHeartbeats 2000000 in
theorem record_b_ok (ea : Nat → Addr) (mb bp : Nat) (a : Option Addr) (n c : Nat) (l : List UInt8) (w0 w : World) (hs0 : Sl w0 a n c l) (E0 : Env w0 ea) (hB : Below w0.heap.size w0 w) (d : Int)
    (f k m : Nat) (ht : readTag l = .ok (f, k, m)) (F : Nat) (u : Nat) (b : List UInt8) (s : Nat) (hms : m + s ≤ 9223372036854775807)
    (hF : ∀ (args : Array Value) (W : World), (callFunc F args).run Tryd.prog W = .ok (.enter F args) W)
    (hlook : ∀ W, Below w0.heap.size w0 W → (Instr.lookup 84 (.map (some mb)) (.int .i64 (k : Int)) false).run Tryd.prog W = .ok (.func (.func F) #[] #[.pointer (some ⟨bp, 0, none⟩)]) W)
    (hcall : ∀ W, Below w0.heap.size w0 W → Calls Tryd.prog F #[.slice (partAt a c m) (n - m) (c - m), .int .i64 (f : Int), .int .i64 d, .pointer (some ⟨bp, 0, none⟩)] W (BodyPost ea (.ok (u, b, s)) w0 W)) :
    Calls Tryd.prog 51 #[.map (some mb), .slice a n c, .int .i64 d] w (RecPost ea (.ok (⟨f, k, u, b⟩, m + s)) w0 w) := by
  have hs := hs0.kept hB
  have E := E0.kept hB
  have hz := hB.size
  have hr := readTag_ok ht
  have hmn : m ≤ n := by have := hs.len; omega
  have hsl := fun W => slice_l a n c (m : Int) (by omega) (by omega) (n - m) (c - m) (by omega) (by omega) m (by omega) W
  clear hr
  go_enter Tryd.func51, Tryd.ntmps51
  go_wp2_with fail
  refine (readTag_yes ea a n c l _ (hs.alloc _) (E.alloc _) f k m ht).mono ?_
  clear ht
  rintro e w' ⟨rfl, nq, rfl⟩
  have hBw : Below w.heap.size w ((w.alloc rec0).drewN nq) := bdN ((Below.refl _ _).alloc (Nat.le_refl _) _) _
  have hB0 : Below w0.heap.size w0 ((w.alloc rec0).drewN nq) := bdN (hB.alloc hz _) _
  have hS0 : ((w.alloc rec0).drewN nq).heap.size = w.heap.size + 1 := by simp
  have hc0 : ∀ i v, (#[.int .i64 0, .int .i64 0, .int .u64 0, .slice none 0 0] : Array Value)[i]? = some v → ((w.alloc rec0).drewN nq).cell? ⟨w.heap.size, i, none⟩ = some v := by intro i v h; rw [← h]; simp
  have hf0 : ∀ i, ((w.alloc rec0).drewN nq).frozen? ⟨w.heap.size, i, none⟩ = false := by intro i; simp
  go_upto_region 4 with fail
  generalize ((w.alloc rec0).drewN nq) = W0 at hBw hB0 hS0 hc0 hf0 ⊢
  have HZ0 := Lib.hid hS0
  have hlt0 : w.heap.size < W0.heap.size := by omega
  have hlt1 : w0.heap.size ≤ W0.heap.size := by omega
  clear hS0 hB
  have hl1 := hlook W0.drew hB0.drew
  have hl2 := fun o => hlook (W0.drew.alloc o) (hB0.drew.alloc (by simp; omega) o)
  have hl3 := fun o => hlook (W0.alloc o).drew ((hB0.alloc (by omega) o).drew)
  clear hlook
  have HC := Lib.hid hcall; clear hcall
  go_cut [12, 13] (fun s12 s13 wx => ∃ g, s12 = .nilIface ∧ s13 = .pointer (some ⟨g, 0, none⟩) ∧ Got u b s (w.heap.size + 1) w0 W0 g wx)
  case first =>
    go_region_with (first | (refine (HC.out _ (by repeat (first | exact hB0 | (refine Below.drew ?_) | (refine Below.alloc ?_ (by first | omega | (simp; omega)) _) | (refine bdN ?_ _)))).mono ?_; rintro e w1 ⟨hb1, a1, m1, c1, rfl, hs1⟩; obtain ⟨hc1, hf1⟩ := bcell hb1; have hz1 := hb1.size; simp only [World.size_drew, World.size_alloc] at hz1))
    all_goals (go_wp2_with fail; go_meet)
    · exact ⟨_, rfl, rfl, got_last (by assumption) (by omega) (by assumption)⟩
    · exact ⟨_, rfl, rfl, got_first (by assumption) (by omega) (by assumption)⟩
    · exact ⟨_, rfl, rfl, got_first (by assumption) (by omega) (by assumption)⟩
  case rest =>
    obtain ⟨g, rfl, rfl, a', m', c', g0, g1, g2, hsl', hg, hgs, hB1⟩ := hcut
    have hk : ∀ i v, (#[.int .i64 0, .int .i64 0, .int .u64 0, .slice none 0 0] : Array Value)[i]? = some v → wc.cell? ⟨w.heap.size, i, none⟩ = some v := fun i v h => (hB1.cell (p := ⟨w.heap.size, i, none⟩) (by simp)).trans (hc0 i v h)
    have k0 := hk 0 (.int .i64 0) rfl
    have k1 := hk 1 (.int .i64 0) rfl
    have k2 := hk 2 (.int .u64 0) rfl
    have k3 := hk 3 (.slice none 0 0) rfl
    have kf : ∀ i, wc.frozen? ⟨w.heap.size, i, none⟩ = false := fun i => (hB1.frozen (p := ⟨w.heap.size, i, none⟩) (by simp)).trans (hf0 i)
    have hBx : Below w.heap.size w wc := hBw.trans (hB1.mono (by omega))
    have hne : ¬ w.heap.size = g := by omega
    have hne' : ¬ g = w.heap.size := by omega
    clear hk hc0 hf0 hl1 hl2 hl3 HC
    go_wp2
    go_region
    all_goals (try go_wp2)
    all_goals refine bodyPost_ret (v := .tuple #[.agg #[.int .i64 (f : Int), .int .i64 (k : Int), .int .u64 (u : Int), .slice a' m' c'], .int .i64 ((m + s : Nat) : Int), .nilIface]) (by simp [results, Tryd.results51, go_sem, k0, k1, k2, k3]) rfl ?_
    all_goals refine ⟨?_, _, _, _, rfl, hsl'⟩
    all_goals (repeat (first | exact Below.refl _ _ | assumption | (refine Below.setCell ?_ (by simp) _) | (refine bdN ?_ _) | (refine Below.drew ?_) | (refine Below.alloc ?_ (by simp) _)))

set_option maxRecDepth 100000 in
set_option maxHeartbeats 2000000 in
theorem record_b_er (ea : Nat → Addr) (mb bp : Nat) (a : Option Addr) (n c : Nat) (l : List UInt8) (w0 w : World) (hs0 : Sl w0 a n c l) (E0 : Env w0 ea) (hB : Below w0.heap.size w0 w) (d : Int)
    (f k m : Nat) (ht : readTag l = .ok (f, k, m)) (F : Nat) (x : Nat)
    (hF : ∀ (args : Array Value) (W : World), (callFunc F args).run Tryd.prog W = .ok (.enter F args) W)
    (hlook : ∀ W, Below w0.heap.size w0 W → (Instr.lookup 84 (.map (some mb)) (.int .i64 (k : Int)) false).run Tryd.prog W = .ok (.func (.func F) #[] #[.pointer (some ⟨bp, 0, none⟩)]) W)
    (hcall : ∀ W, Below w0.heap.size w0 W → Calls Tryd.prog F #[.slice (partAt a c m) (n - m) (c - m), .int .i64 (f : Int), .int .i64 d, .pointer (some ⟨bp, 0, none⟩)] W (BodyPost ea (.er x) w0 W)) :
    Calls Tryd.prog 51 #[.map (some mb), .slice a n c, .int .i64 d] w (RecPost ea (.er x) w0 w) := by
  have hs := hs0.kept hB
  have E := E0.kept hB
  have hz := hB.size
  have hr := readTag_ok ht
  have hmn : m ≤ n := by have := hs.len; omega
  have hsl := fun W => slice_l a n c (m : Int) (by omega) (by omega) (n - m) (c - m) (by omega) (by omega) m (by omega) W
  clear hr
  go_enter Tryd.func51, Tryd.ntmps51
  go_wp2_with fail
  refine (readTag_yes ea a n c l _ (hs.alloc _) (E.alloc _) f k m ht).mono ?_
  clear ht
  rintro e w' ⟨rfl, nq, rfl⟩
  have hBw : Below w.heap.size w ((w.alloc rec0).drewN nq) := bdN ((Below.refl _ _).alloc (Nat.le_refl _) _) _
  have hB0 : Below w0.heap.size w0 ((w.alloc rec0).drewN nq) := bdN (hB.alloc hz _) _
  have hS0 : ((w.alloc rec0).drewN nq).heap.size = w.heap.size + 1 := by simp
  have hc0 : ∀ i v, (#[.int .i64 0, .int .i64 0, .int .u64 0, .slice none 0 0] : Array Value)[i]? = some v → ((w.alloc rec0).drewN nq).cell? ⟨w.heap.size, i, none⟩ = some v := by intro i v h; rw [← h]; simp
  have hf0 : ∀ i, ((w.alloc rec0).drewN nq).frozen? ⟨w.heap.size, i, none⟩ = false := by intro i; simp
  go_upto_region 4 with fail
  generalize ((w.alloc rec0).drewN nq) = W0 at hBw hB0 hS0 hc0 hf0 ⊢
  have HZ0 := Lib.hid hS0
  have hlt0 : w.heap.size < W0.heap.size := by omega
  have hlt1 : w0.heap.size ≤ W0.heap.size := by omega
  clear hS0 hB
  have hl1 := hlook W0.drew hB0.drew
  have hl2 := fun o => hlook (W0.drew.alloc o) (hB0.drew.alloc (by simp; omega) o)
  have hl3 := fun o => hlook (W0.alloc o).drew ((hB0.alloc (by omega) o).drew)
  clear hlook
  have HC := Lib.hid hcall; clear hcall
  go_cut [12, 13] (fun s12 s13 wx => ∃ g, s12 = errV ea x ∧ s13 = .pointer (some ⟨g, 0, none⟩) ∧ Got 0 [] 0 (w.heap.size + 1) w0 W0 g wx)
  case first =>
    go_region_with (first | (refine (HC.out _ (by repeat (first | exact hB0 | (refine Below.drew ?_) | (refine Below.alloc ?_ (by first | omega | (simp; omega)) _) | (refine bdN ?_ _)))).mono ?_; rintro e w1 ⟨hb1, rfl⟩; obtain ⟨hc1, hf1⟩ := bcell hb1; have hz1 := hb1.size; simp only [World.size_drew, World.size_alloc] at hz1))
    all_goals (go_wp2_with fail; go_meet)
    · exact ⟨_, rfl, rfl, got_last (Sl.nil0 w0) (by omega) (by assumption)⟩
    · exact ⟨_, rfl, rfl, got_first (Sl.nil0 w0) (by omega) (by assumption)⟩
    · exact ⟨_, rfl, rfl, got_first (Sl.nil0 w0) (by omega) (by assumption)⟩
  case rest =>
    obtain ⟨g, rfl, rfl, a', m', c', g0, g1, g2, hsl', hg, hgs, hB1⟩ := hcut
    have hk : ∀ i v, (#[.int .i64 0, .int .i64 0, .int .u64 0, .slice none 0 0] : Array Value)[i]? = some v → wc.cell? ⟨w.heap.size, i, none⟩ = some v := fun i v h => (hB1.cell (p := ⟨w.heap.size, i, none⟩) (by simp)).trans (hc0 i v h)
    have k0 := hk 0 (.int .i64 0) rfl
    have k1 := hk 1 (.int .i64 0) rfl
    have k2 := hk 2 (.int .u64 0) rfl
    have k3 := hk 3 (.slice none 0 0) rfl
    have kf : ∀ i, wc.frozen? ⟨w.heap.size, i, none⟩ = false := fun i => (hB1.frozen (p := ⟨w.heap.size, i, none⟩) (by simp)).trans (hf0 i)
    have hBx : Below w.heap.size w wc := hBw.trans (hB1.mono (by omega))
    have hne : ¬ w.heap.size = g := by omega
    have hne' : ¬ g = w.heap.size := by omega
    clear hk hc0 hf0 hl1 hl2 hl3 HC
    go_wp2
    refine bodyPost_ret (v := .tuple #[.agg #[.int .i64 0, .int .i64 0, .int .u64 0, .slice none 0 0], .int .i64 0, errV ea x]) (by simp [results, Tryd.results51, go_sem, k0, k1, k2, k3]) rfl ?_
    refine ⟨?_, rfl⟩
    (repeat (first | exact Below.refl _ _ | assumption | (refine Below.setCell ?_ (by simp) _) | (refine bdN ?_ _) | (refine Below.drew ?_) | (refine Below.alloc ?_ (by simp) _)))

set_option maxRecDepth 100000 in
set_option maxHeartbeats 2000000 in
theorem record_c_ok (ea : Nat → Addr) (mb bp : Nat) (a : Option Addr) (n c : Nat) (l : List UInt8) (w0 w : World) (hs0 : Sl w0 a n c l) (E0 : Env w0 ea) (hB : Below w0.heap.size w0 w) (d : Int)
    (f k m : Nat) (ht : readTag l = .ok (f, k, m)) (F : Nat) (u : Nat) (b : List UInt8) (s : Nat) (hms : m + s ≤ 9223372036854775807)
    (hF : ∀ (args : Array Value) (W : World), (callFunc F args).run Tryd.prog W = .ok (.enter F args) W)
    (hlook : ∀ W, Below w0.heap.size w0 W → (Instr.lookup 84 (.map (some mb)) (.int .i64 (k : Int)) false).run Tryd.prog W = .ok (.func (.func F) #[.map (some mb)] #[]) W)
    (hcall : ∀ W, Below w0.heap.size w0 W → Calls Tryd.prog F #[.map (some mb), .slice (partAt a c m) (n - m) (c - m), .int .i64 (f : Int), .int .i64 d] W (BodyPost ea (.ok (u, b, s)) w0 W)) :
    Calls Tryd.prog 51 #[.map (some mb), .slice a n c, .int .i64 d] w (RecPost ea (.ok (⟨f, k, u, b⟩, m + s)) w0 w) := by
  have hs := hs0.kept hB
  have E := E0.kept hB
  have hz := hB.size
  have hr := readTag_ok ht
  have hmn : m ≤ n := by have := hs.len; omega
  have hsl := fun W => slice_l a n c (m : Int) (by omega) (by omega) (n - m) (c - m) (by omega) (by omega) m (by omega) W
  clear hr
  go_enter Tryd.func51, Tryd.ntmps51
  go_wp2_with fail
  refine (readTag_yes ea a n c l _ (hs.alloc _) (E.alloc _) f k m ht).mono ?_
  clear ht
  rintro e w' ⟨rfl, nq, rfl⟩
  have hBw : Below w.heap.size w ((w.alloc rec0).drewN nq) := bdN ((Below.refl _ _).alloc (Nat.le_refl _) _) _
  have hB0 : Below w0.heap.size w0 ((w.alloc rec0).drewN nq) := bdN (hB.alloc hz _) _
  have hS0 : ((w.alloc rec0).drewN nq).heap.size = w.heap.size + 1 := by simp
  have hc0 : ∀ i v, (#[.int .i64 0, .int .i64 0, .int .u64 0, .slice none 0 0] : Array Value)[i]? = some v → ((w.alloc rec0).drewN nq).cell? ⟨w.heap.size, i, none⟩ = some v := by intro i v h; rw [← h]; simp
  have hf0 : ∀ i, ((w.alloc rec0).drewN nq).frozen? ⟨w.heap.size, i, none⟩ = false := by intro i; simp
  go_upto_region 4 with fail
  generalize ((w.alloc rec0).drewN nq) = W0 at hBw hB0 hS0 hc0 hf0 ⊢
  have HZ0 := Lib.hid hS0
  have hlt0 : w.heap.size < W0.heap.size := by omega
  have hlt1 : w0.heap.size ≤ W0.heap.size := by omega
  clear hS0 hB
  have hl1 := hlook W0.drew hB0.drew
  have hl2 := fun o => hlook (W0.drew.alloc o) (hB0.drew.alloc (by simp; omega) o)
  have hl3 := fun o => hlook (W0.alloc o).drew ((hB0.alloc (by omega) o).drew)
  clear hlook
  have HC := Lib.hid hcall; clear hcall
  go_cut [12, 13] (fun s12 s13 wx => ∃ g, s12 = .nilIface ∧ s13 = .pointer (some ⟨g, 0, none⟩) ∧ Got u b s (w.heap.size + 1) w0 W0 g wx)
  case first =>
    go_region_with (first | (refine (HC.out _ (by repeat (first | exact hB0 | (refine Below.drew ?_) | (refine Below.alloc ?_ (by first | omega | (simp; omega)) _) | (refine bdN ?_ _)))).mono ?_; rintro e w1 ⟨hb1, a1, m1, c1, rfl, hs1⟩; obtain ⟨hc1, hf1⟩ := bcell hb1; have hz1 := hb1.size; simp only [World.size_drew, World.size_alloc] at hz1))
    all_goals (go_wp2_with fail; go_meet)
    · exact ⟨_, rfl, rfl, got_last (by assumption) (by omega) (by assumption)⟩
    · exact ⟨_, rfl, rfl, got_first (by assumption) (by omega) (by assumption)⟩
    · exact ⟨_, rfl, rfl, got_first (by assumption) (by omega) (by assumption)⟩
  case rest =>
    obtain ⟨g, rfl, rfl, a', m', c', g0, g1, g2, hsl', hg, hgs, hB1⟩ := hcut
    have hk : ∀ i v, (#[.int .i64 0, .int .i64 0, .int .u64 0, .slice none 0 0] : Array Value)[i]? = some v → wc.cell? ⟨w.heap.size, i, none⟩ = some v := fun i v h => (hB1.cell (p := ⟨w.heap.size, i, none⟩) (by simp)).trans (hc0 i v h)
    have k0 := hk 0 (.int .i64 0) rfl
    have k1 := hk 1 (.int .i64 0) rfl
    have k2 := hk 2 (.int .u64 0) rfl
    have k3 := hk 3 (.slice none 0 0) rfl
    have kf : ∀ i, wc.frozen? ⟨w.heap.size, i, none⟩ = false := fun i => (hB1.frozen (p := ⟨w.heap.size, i, none⟩) (by simp)).trans (hf0 i)
    have hBx : Below w.heap.size w wc := hBw.trans (hB1.mono (by omega))
    have hne : ¬ w.heap.size = g := by omega
    have hne' : ¬ g = w.heap.size := by omega
    clear hk hc0 hf0 hl1 hl2 hl3 HC
    go_wp2
    go_region
    all_goals (try go_wp2)
    all_goals refine bodyPost_ret (v := .tuple #[.agg #[.int .i64 (f : Int), .int .i64 (k : Int), .int .u64 (u : Int), .slice a' m' c'], .int .i64 ((m + s : Nat) : Int), .nilIface]) (by simp [results, Tryd.results51, go_sem, k0, k1, k2, k3]) rfl ?_
    all_goals refine ⟨?_, _, _, _, rfl, hsl'⟩
    all_goals (repeat (first | exact Below.refl _ _ | assumption | (refine Below.setCell ?_ (by simp) _) | (refine bdN ?_ _) | (refine Below.drew ?_) | (refine Below.alloc ?_ (by simp) _)))

set_option maxRecDepth 100000 in
set_option maxHeartbeats 2000000 in
theorem record_c_er (ea : Nat → Addr) (mb bp : Nat) (a : Option Addr) (n c : Nat) (l : List UInt8) (w0 w : World) (hs0 : Sl w0 a n c l) (E0 : Env w0 ea) (hB : Below w0.heap.size w0 w) (d : Int)
    (f k m : Nat) (ht : readTag l = .ok (f, k, m)) (F : Nat) (x : Nat)
    (hF : ∀ (args : Array Value) (W : World), (callFunc F args).run Tryd.prog W = .ok (.enter F args) W)
    (hlook : ∀ W, Below w0.heap.size w0 W → (Instr.lookup 84 (.map (some mb)) (.int .i64 (k : Int)) false).run Tryd.prog W = .ok (.func (.func F) #[.map (some mb)] #[]) W)
    (hcall : ∀ W, Below w0.heap.size w0 W → Calls Tryd.prog F #[.map (some mb), .slice (partAt a c m) (n - m) (c - m), .int .i64 (f : Int), .int .i64 d] W (BodyPost ea (.er x) w0 W)) :
    Calls Tryd.prog 51 #[.map (some mb), .slice a n c, .int .i64 d] w (RecPost ea (.er x) w0 w) := by
  have hs := hs0.kept hB
  have E := E0.kept hB
  have hz := hB.size
  have hr := readTag_ok ht
  have hmn : m ≤ n := by have := hs.len; omega
  have hsl := fun W => slice_l a n c (m : Int) (by omega) (by omega) (n - m) (c - m) (by omega) (by omega) m (by omega) W
  clear hr
  go_enter Tryd.func51, Tryd.ntmps51
  go_wp2_with fail
  refine (readTag_yes ea a n c l _ (hs.alloc _) (E.alloc _) f k m ht).mono ?_
  clear ht
  rintro e w' ⟨rfl, nq, rfl⟩
  have hBw : Below w.heap.size w ((w.alloc rec0).drewN nq) := bdN ((Below.refl _ _).alloc (Nat.le_refl _) _) _
  have hB0 : Below w0.heap.size w0 ((w.alloc rec0).drewN nq) := bdN (hB.alloc hz _) _
  have hS0 : ((w.alloc rec0).drewN nq).heap.size = w.heap.size + 1 := by simp
  have hc0 : ∀ i v, (#[.int .i64 0, .int .i64 0, .int .u64 0, .slice none 0 0] : Array Value)[i]? = some v → ((w.alloc rec0).drewN nq).cell? ⟨w.heap.size, i, none⟩ = some v := by intro i v h; rw [← h]; simp
  have hf0 : ∀ i, ((w.alloc rec0).drewN nq).frozen? ⟨w.heap.size, i, none⟩ = false := by intro i; simp
  go_upto_region 4 with fail
  generalize ((w.alloc rec0).drewN nq) = W0 at hBw hB0 hS0 hc0 hf0 ⊢
  have HZ0 := Lib.hid hS0
  have hlt0 : w.heap.size < W0.heap.size := by omega
  have hlt1 : w0.heap.size ≤ W0.heap.size := by omega
  clear hS0 hB
  have hl1 := hlook W0.drew hB0.drew
  have hl2 := fun o => hlook (W0.drew.alloc o) (hB0.drew.alloc (by simp; omega) o)
  have hl3 := fun o => hlook (W0.alloc o).drew ((hB0.alloc (by omega) o).drew)
  clear hlook
  have HC := Lib.hid hcall; clear hcall
  go_cut [12, 13] (fun s12 s13 wx => ∃ g, s12 = errV ea x ∧ s13 = .pointer (some ⟨g, 0, none⟩) ∧ Got 0 [] 0 (w.heap.size + 1) w0 W0 g wx)
  case first =>
    go_region_with (first | (refine (HC.out _ (by repeat (first | exact hB0 | (refine Below.drew ?_) | (refine Below.alloc ?_ (by first | omega | (simp; omega)) _) | (refine bdN ?_ _)))).mono ?_; rintro e w1 ⟨hb1, rfl⟩; obtain ⟨hc1, hf1⟩ := bcell hb1; have hz1 := hb1.size; simp only [World.size_drew, World.size_alloc] at hz1))
    all_goals (go_wp2_with fail; go_meet)
    · exact ⟨_, rfl, rfl, got_last (Sl.nil0 w0) (by omega) (by assumption)⟩
    · exact ⟨_, rfl, rfl, got_first (Sl.nil0 w0) (by omega) (by assumption)⟩
    · exact ⟨_, rfl, rfl, got_first (Sl.nil0 w0) (by omega) (by assumption)⟩
  case rest =>
    obtain ⟨g, rfl, rfl, a', m', c', g0, g1, g2, hsl', hg, hgs, hB1⟩ := hcut
    have hk : ∀ i v, (#[.int .i64 0, .int .i64 0, .int .u64 0, .slice none 0 0] : Array Value)[i]? = some v → wc.cell? ⟨w.heap.size, i, none⟩ = some v := fun i v h => (hB1.cell (p := ⟨w.heap.size, i, none⟩) (by simp)).trans (hc0 i v h)
    have k0 := hk 0 (.int .i64 0) rfl
    have k1 := hk 1 (.int .i64 0) rfl
    have k2 := hk 2 (.int .u64 0) rfl
    have k3 := hk 3 (.slice none 0 0) rfl
    have kf : ∀ i, wc.frozen? ⟨w.heap.size, i, none⟩ = false := fun i => (hB1.frozen (p := ⟨w.heap.size, i, none⟩) (by simp)).trans (hf0 i)
    have hBx : Below w.heap.size w wc := hBw.trans (hB1.mono (by omega))
    have hne : ¬ w.heap.size = g := by omega
    have hne' : ¬ g = w.heap.size := by omega
    clear hk hc0 hf0 hl1 hl2 hl3 HC
    go_wp2
    refine bodyPost_ret (v := .tuple #[.agg #[.int .i64 0, .int .i64 0, .int .u64 0, .slice none 0 0], .int .i64 0, errV ea x]) (by simp [results, Tryd.results51, go_sem, k0, k1, k2, k3]) rfl ?_
    refine ⟨?_, rfl⟩
    (repeat (first | exact Below.refl _ _ | assumption | (refine Below.setCell ?_ (by simp) _) | (refine bdN ?_ _) | (refine Below.drew ?_) | (refine Below.alloc ?_ (by simp) _)))
end Go.Proofs.YtclnmajjkchfmaaDoor
