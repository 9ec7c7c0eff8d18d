/-
  CONTRACTS: the decoder.
-/
import Derived.Test.YtlkieeindnpidaaDoorQ
namespace Go.Proofs.YtlkieeindnpidaaDoor
open Go.RowKit Go.Shelf Tt Hu Hu.Hf

/-- A decoder at block d, its table at block A. -/
structure Dc (w : World) (d A limit m : Nat) (M : List Hd) : Prop where
  c0 : w.cell? ⟨d, 0, none⟩ = some (.pointer (some ⟨A, 0, none⟩))
  c1 : w.cell? ⟨d, 1, none⟩ = some (.int .i64 (limit : Int))
  c2 : w.cell? ⟨d, 2, none⟩ = some (.int .i64 (M.length : Int))
  z : ∀ i, w.frozen? ⟨d, i, none⟩ = false
  has : Has w A m M
  ne : A < d
  m : m ≤ 4096
  lim : limit ≤ 4096
  glob : ∀ g ∈ globs, g < A
theorem Dc.lt {w : World} {d A limit m : Nat} {M : List Hd} (h : Dc w d A limit m M) : d < w.heap.size := Hu.cell_lt h.c0
theorem Dc.below {w w' : World} {d A limit m : Nat} {M : List Hd} (h : Dc w d A limit m M) (hb : Below w.heap.size w w') : Dc w' d A limit m M :=
  ⟨(hb.cell (Hu.cell_lt h.c0)).trans h.c0, (hb.cell (Hu.cell_lt h.c1)).trans h.c1, (hb.cell (Hu.cell_lt h.c2)).trans h.c2, fun i => (hb.frozen (p := ⟨d, i, none⟩) (show d < w.heap.size from Hu.cell_lt h.c0)).trans (h.z i), h.has.below hb, h.ne, h.m, h.lim, h.glob⟩
/-- A decoder that takes nothing more. -/
structure Dead (w : World) (d k : Nat) : Prop where
  c0 : w.cell? ⟨d, 0, none⟩ = some (.pointer none)
  c2 : w.cell? ⟨d, 2, none⟩ = some (.int .i64 (k : Int))
set_option maxRecDepth 100000 in
theorem newDec_yes (m : Nat) (h : m ≤ 4096) (w : World) (hg : ∀ g ∈ globs, g < w.heap.size) : Calls Tryd.prog 34 #[.int .i64 (m : Int)] w fun e w' => ∃ d A, e = .returned (.tuple #[.pointer (some ⟨d, 0, none⟩), .nilIface]) ∧ Dc w' d A m m [] ∧ w.heap.size ≤ A ∧ Below w.heap.size w w' := by
  have HN := Lib.hid (has_new m h w)
  go_enter Tryd.func34, Tryd.ntmps34
  go_wp2_with fail
  refine HN.out.mono ?_
  rintro e w1 ⟨rfl, hA, hb⟩
  have hlt := hA.lt
  go_wp2
  go_ret2
  exact ⟨w1.heap.size, w.heap.size, rfl, ⟨by simp, by simp, by simp, fun i => by simp, hA.below ((Below.refl _ _).alloc (Nat.le_refl _) _), hlt, h, h, hg⟩, Nat.le_refl _, hb.alloc hb.size _⟩
theorem newDec_no (m : Int) (h : m < 0 ∨ 4096 < m) (ty : TypeId) (p : Value) (w : World) (hE : w.cell? ⟨0, 0, none⟩ = some (.iface ty p)) : Calls Tryd.prog 34 #[.int .i64 m] w fun e w' => e = .returned (.tuple #[.pointer none, .iface ty p]) ∧ Below w.heap.size w w' := by
  have HN := Lib.hid (new_no m h (.iface ty p) w hE)
  clear hE h
  go_enter Tryd.func34, Tryd.ntmps34
  go_wp2_with fail
  refine HN.out.mono ?_
  rintro e w1 ⟨rfl, hb⟩
  go_wp2
  go_ret2
  exact ⟨rfl, hb⟩
theorem decLen_any {w : World} {d A limit m : Nat} {M : List Hd} (h : Dc w d A limit m M) : Calls Tryd.prog 38 #[.pointer (some ⟨d, 0, none⟩)] w fun e w' => e = .returned (.int .i64 (M.length : Int)) ∧ w = w' := by
  have c2 := h.c2
  go_enter Tryd.func38, Tryd.ntmps38
  go_wp2
  go_ret
  exact ⟨rfl, rfl⟩

theorem len_cell {w : World} {b : Nat} {v : Value} (h1 : w.cell? ⟨b, 385, none⟩ = some v) : Calls Tryd.prog 63 #[.pointer (some ⟨b, 0, none⟩)] w fun e w' => e = .returned v ∧ w = w' := by
  go_enter Tryd.func63, Tryd.ntmps63
  go_wp2
  go_ret
  exact ⟨rfl, rfl⟩
theorem has_cell {w : World} {A m : Nat} {M : List Hd} (h : Has w A m M) : w.cell? ⟨A, 385, none⟩ = some (.int .i64 (M.length : Int)) := by
  obtain ⟨R, o, hr, ht, hM⟩ := h
  exact ht.c1
/-- What the statement that stores the number of headers reads and writes. -/
theorem sd_now {W : World} {H d A : Nat} {lm : Int} {u : Value} (h1 : W.cell? ⟨H, 0, none⟩ = some (.pointer (some ⟨d, 0, none⟩))) (h2 : W.cell? ⟨d, 0, none⟩ = some (.pointer (some ⟨A, 0, none⟩))) (h3 : W.cell? ⟨A, 385, none⟩ = some (.int .i64 lm)) (h4 : W.cell? ⟨d, 2, none⟩ = some u) (h5 : W.frozen? ⟨d, 2, none⟩ = false) :
    W.cell? ⟨H, 0, none⟩ = some (.pointer (some ⟨d, 0, none⟩)) ∧ W.cell? ⟨d, 0, none⟩ = some (.pointer (some ⟨A, 0, none⟩)) ∧ W.cell? ⟨A, 385, none⟩ = some (.int .i64 lm) ∧ W.cell? ⟨d, 2, none⟩ = some (Tt.val W d 2) ∧ W.frozen? ⟨d, 2, none⟩ = false :=
  ⟨h1, h2, h3, by unfold Tt.val; rw [h4]; rfl, h5⟩
theorem sd_store {W : World} {H d A : Nat} {lm : Int} (v : Value) (n1 : H ≠ d) (n2 : A ≠ d) (h : W.cell? ⟨H, 0, none⟩ = some (.pointer (some ⟨d, 0, none⟩)) ∧ W.cell? ⟨d, 0, none⟩ = some (.pointer (some ⟨A, 0, none⟩)) ∧ W.cell? ⟨A, 385, none⟩ = some (.int .i64 lm) ∧ W.cell? ⟨d, 2, none⟩ = some (Tt.val W d 2) ∧ W.frozen? ⟨d, 2, none⟩ = false) :
    (W.setCell ⟨d, 2, none⟩ v).cell? ⟨H, 0, none⟩ = some (.pointer (some ⟨d, 0, none⟩)) ∧ (W.setCell ⟨d, 2, none⟩ v).cell? ⟨d, 0, none⟩ = some (.pointer (some ⟨A, 0, none⟩)) ∧ (W.setCell ⟨d, 2, none⟩ v).cell? ⟨A, 385, none⟩ = some (.int .i64 lm) ∧ (W.setCell ⟨d, 2, none⟩ v).cell? ⟨d, 2, none⟩ = some (Tt.val (W.setCell ⟨d, 2, none⟩ v) d 2) ∧ (W.setCell ⟨d, 2, none⟩ v).frozen? ⟨d, 2, none⟩ = false := by
  obtain ⟨h1, h2, h3, h4, h5⟩ := h
  exact sd_now ((World.cell?_of_block (a := ⟨H, 0, none⟩) (Below.heap_setCell _ _ _ _ n1)).trans h1) (by rw [cell_setN _ _ _ _ _ (by omega)]; exact h2) ((World.cell?_of_block (a := ⟨A, 385, none⟩) (Below.heap_setCell _ _ _ _ n2)).trans h3) (cell_setS _ _ _ _ _ h4) (by rw [World.frozen?_setCell]; exact h5)
/-- What a reading of the block l begins with. -/
def start (l : List UInt8) (m : Nat) (M : List Hd) : RS := ⟨l, m, M, [], 0⟩
/-- What Decode answers. -/
def DecPost' (E : Nat → Value) (d A limit : Nat) (M : List Hd) (x : Res (Unit × RS)) (w : World) (e : Ending) (w' : World) : Prop := Kq w.heap.size A d w w' ∧ match x with
  | .ok (_, s') => ∃ v, e = .returned (.tuple #[v, .nilIface]) ∧ NOwn w' w.heap.size v s'.out ∧ Dc w' d A limit s'.m s'.M
  | .er c => e = .returned (.tuple #[.slice none 0 0, E c]) ∧ Dead w' d M.length

set_option maxRecDepth 100000 in
set_option maxHeartbeats 8000000 in
theorem decode_alive (E : Nat → Value) (d A limit m : Nat) (M : List Hd) (a : Option Addr) (n c : Nat) (l : List UInt8) (w : World) (h : Dc w d A limit m M) (hs : Sl w a n c l) (hn : n ≤ 1000000)
    (ha : ∀ p, a = some p → 0 < n → p.block < w.heap.size ∧ p.block ≠ A) (hE : Env w E) (hX : Errs E) :
    Calls Tryd.prog 36 #[.pointer (some ⟨d, 0, none⟩), .slice a n c] w (DecPost' E d A limit M (allS limit l.length (start l m M)) w) := by
  have hmf : ∀ (fn : Fn) (first cap : Array Value) (w : World), (Instr.makeFunc fn first cap).run Tryd.prog w = .ok (.func fn first cap) w := fun _ _ _ _ => rfl
  have hAd := h.ne
  have hb0 : Below w.heap.size w (((w.alloc (.cells #[.pointer (some ⟨d, 0, none⟩)] 61)).alloc (.cells #[.slice none 0 0] 50)).alloc (.cells #[.nilIface] 29)) := (((Below.refl _ w).alloc (Nat.le_refl _) _).alloc (by simp) _).alloc (by simp; omega) _
  have x0 := ((Boxed.new w 61 (.pointer (some ⟨d, 0, none⟩))).alloc (.cells #[.slice none 0 0] 50)).alloc (.cells #[.nilIface] 29)
  have x1 := (Boxed.new (w.alloc (.cells #[.pointer (some ⟨d, 0, none⟩)] 61)) 50 (.slice none 0 0)).alloc (.cells #[.nilIface] 29)
  have x2 := Boxed.new ((w.alloc (.cells #[.pointer (some ⟨d, 0, none⟩)] 61)).alloc (.cells #[.slice none 0 0] 50)) 29 .nilIface
  simp only [World.size_alloc] at x1 x2
  have hz0 : (((w.alloc (.cells #[.pointer (some ⟨d, 0, none⟩)] 61)).alloc (.cells #[.slice none 0 0] 50)).alloc (.cells #[.nilIface] 29)).heap.size = w.heap.size + 1 + 1 + 1 := by simp
  generalize hw0 : ((w.alloc (.cells #[.pointer (some ⟨d, 0, none⟩)] 61)).alloc (.cells #[.slice none 0 0] 50)).alloc (.cells #[.nilIface] 29) = w0 at hb0 x0 x1 x2 hz0
  have k0 := x0.cell
  have k1 := x1.cell
  have k2 := x2.cell
  have f1 := x1.frozen
  have f2 := x2.frozen
  clear x0 x1 x2
  have HD0 := Lib.hid (h.below hb0)
  have HS0 := Lib.hid (hs.kept hb0)
  have HE0 := Lib.hid (hE.kept hb0)
  have HA := Lib.hid ha
  have hdl := h.lt
  have c0 := HD0.out.c0
  have c1 := HD0.out.c1
  have HW0 := Lib.hid hw0
  have HB0 := Lib.hid hb0
  have HLEN := Lib.hid hs.len
  generalize hH : w.heap.size = H at k0 k1 k2 f1 f2 hz0 hdl
  have HHS := Lib.hid hH
  clear h hs hE ha hb0 hw0 hH
  go_enter_defers Tryd.func36, Tryd.ntmps36
  go_upto_region 1 with fail
  rw [HW0.out]
  simp only [HHS.out]
  go_wp2
  have HR0 : Hid (Rg' (w0.alloc (.cells #[.slice a n c, .pointer (some ⟨A, 0, none⟩), .int .i64 (limit : Int), .slice none 0 0, .int .i64 0] 112)) (H + 1 + 1 + 1) A limit (start l m M)) := Lib.hid (by
    have hba : Below w0.heap.size w0 (w0.alloc (.cells #[.slice a n c, .pointer (some ⟨A, 0, none⟩), .int .i64 (limit : Int), .slice none 0 0, .int .i64 0] 112)) := (Below.refl _ _).alloc (Nat.le_refl _) _
    rw [← hz0]
    refine ⟨⟨a, n, c, by simp, HS0.out.kept hba, fun p hp h0 => ⟨by have := (HA.out p hp h0).1; rw [HHS.out] at this; omega, (HA.out p hp h0).2⟩⟩, by simp, by simp, ⟨.slice none 0 0, by simp, World.ownsRow_nil _ _ _ _⟩, by simp [start], fun i => by simp, HD0.out.has.below hba, by omega, HD0.out.m, HD0.out.lim, by have := HLEN.out; simp only [start]; omega, by simp [start], by simp [start], HD0.out.glob⟩)
  go_cut [6] from 14 to 23 (fun s6 wx => s6 = .pointer (some ⟨H + 1 + 1 + 1, 0, none⟩) ∧ Rg' wx (H + 1 + 1 + 1) A limit (start l m M) ∧ Below w0.heap.size w0 wx)
  case first =>
    go_region_held3 (fun w' => w'.cell? ⟨H, 0, none⟩ = some (.pointer (some ⟨d, 0, none⟩)) ∧ w'.cell? ⟨d, 0, none⟩ = some (.pointer (some ⟨A, 0, none⟩)) ∧ w'.cell? ⟨d, 1, none⟩ = some (.int .i64 (limit : Int))) (go_keep) (fail)
    all_goals (go_wp2_with fail; go_meet)
    all_goals exact ⟨rfl, HR0.out.below (Below.drew (Below.refl _ _)), Below.drew ((Below.refl _ _).alloc (Nat.le_refl _) _)⟩
  case rest =>
    obtain ⟨rfl, hrc, hbc⟩ := hcut
    obtain ⟨w4, rfl⟩ : ∃ w4 : World, w4 = wc := ⟨_, rfl⟩
    have HALL := Lib.hid (all_any E (H + 1 + 1 + 1) A limit (start l m M) w4 hrc (HE0.out.kept hbc) hX)
    have HRC := Lib.hid hrc
    have HBC := Lib.hid hbc
    have hst : (start l m M).left.length = l.length := rfl
    rw [hst] at HALL
    have hXX := hX
    clear HR0 hrc hbc hX hst
    have HX := Lib.hid hXX
    clear hXX
    generalize hres : allS limit l.length (start l m M) = res at HALL
    have HRES := Lib.hid hres
    clear hres
    cases res with
    | er c =>
      go_wp2_with fail
      refine HALL.out.mono ?_
      rintro e w5 ⟨hk, rfl⟩
      have hq := hk.kq HRC.out
      have bk : ∀ k, k < H + 1 + 1 + 1 → k ≠ A → w5.heap[k]? = w0.heap[k]? := fun k h1 h2 => (hq.block k h1 h2 (by omega)).trans (HBC.out.block k (by omega))
      have j0 := (World.cell?_of_block (a := ⟨H, 0, none⟩) (bk H (by omega) (by omega))).trans k0
      have j1 := (World.cell?_of_block (a := ⟨H + 1, 0, none⟩) (bk (H + 1) (by omega) (by omega))).trans k1
      have j2 := (World.cell?_of_block (a := ⟨H + 1 + 1, 0, none⟩) (bk (H + 1 + 1) (by omega) (by omega))).trans k2
      have g1 := (World.frozen?_of_block (a := ⟨H + 1, 0, none⟩) (bk (H + 1) (by omega) (by omega))).trans f1
      have g2 := (World.frozen?_of_block (a := ⟨H + 1 + 1, 0, none⟩) (bk (H + 1 + 1) (by omega) (by omega))).trans f2
      have bd := bk d (by omega) (by omega)
      have jd := (World.cell?_of_block (a := ⟨d, 0, none⟩) bd).trans c0
      have jz := (World.frozen?_of_block (a := ⟨d, 0, none⟩) bd).trans (HD0.out.z 0)
      obtain ⟨ty, p, hx⟩ := HX.out c
      have HXC := Lib.hid hx
      go_wp2_with fail
      try rw [HXC.out]
      refine leaves_cons (f := 61) (args := #[.pointer (some ⟨H, 0, none⟩), .pointer (some ⟨H + 1, 0, none⟩), .pointer (some ⟨H + 1 + 1, 0, none⟩)]) (by simp) (by simp [go_sem]) ?_
      refine (catch_panic H (H + 1) (H + 1 + 1) d ty p _ _ _ w5 j0 jd jz j1 g1 j2 g2 (by omega) (by omega) (by omega)).mono ?_
      rintro e u' w6 ⟨rfl, rfl, hc⟩
      have q1 := hc.l0
      have q2 := hc.e0
      have hKQ : Hid (Kq H A d w w6) := Lib.hid ⟨((hc.os.trans hq.os).trans HBC.out.os).trans HB0.out.os, ((hc.tape.trans hq.tape).trans HBC.out.tape).trans HB0.out.tape, ((hc.output.trans hq.output).trans HBC.out.output).trans HB0.out.output, by have := hc.size; have := hq.size; have := HBC.out.size; have := HB0.out.size; omega,
        fun k a1 a2 a3 => ((hc.block k (by have := hq.size; have := HBC.out.size; omega) a3 (by omega) (by omega)).trans (bk k (by omega) a2)).trans (HB0.out.block k (by rw [HHS.out]; exact a1))⟩
      have hDD : Hid (Dead w6 d M.length) := Lib.hid ⟨hc.d0, hc.d2.trans ((World.cell?_of_block (a := ⟨d, 2, none⟩) bd).trans HD0.out.c2)⟩
      clear bk
      simp [Leaves, settle, results, Tryd.results36, go_sem, q1, q2]
      exact ⟨by rw [HHS.out]; exact hKQ.out, by rw [HRES.out]; exact ⟨by rw [HXC.out], hDD.out⟩⟩
    | ok q =>
      obtain ⟨u, s'⟩ := q
      go_wp2_with fail
      refine HALL.out.mono ?_
      rintro e w5 ⟨hk, rfl, hr5⟩
      have hq := hk.kq HRC.out
      have hz5 := hk.size
      have hz4 := HBC.out.size
      have bk : ∀ k, k < H + 1 + 1 + 1 → k ≠ A → w5.heap[k]? = w0.heap[k]? := fun k h1 h2 => (hq.block k h1 h2 (by omega)).trans (HBC.out.block k (by omega))
      have j0 := (World.cell?_of_block (a := ⟨H, 0, none⟩) (bk H (by omega) (by omega))).trans k0
      have j1 := (World.cell?_of_block (a := ⟨H + 1, 0, none⟩) (bk (H + 1) (by omega) (by omega))).trans k1
      have j2 := (World.cell?_of_block (a := ⟨H + 1 + 1, 0, none⟩) (bk (H + 1 + 1) (by omega) (by omega))).trans k2
      have g1 := (World.frozen?_of_block (a := ⟨H + 1, 0, none⟩) (bk (H + 1) (by omega) (by omega))).trans f1
      have g2 := (World.frozen?_of_block (a := ⟨H + 1 + 1, 0, none⟩) (bk (H + 1 + 1) (by omega) (by omega))).trans f2
      have bd := bk d (by omega) (by omega)
      have jd := (World.cell?_of_block (a := ⟨d, 0, none⟩) bd).trans c0
      have jd1 := (World.cell?_of_block (a := ⟨d, 1, none⟩) bd).trans c1
      have jd2 := (World.cell?_of_block (a := ⟨d, 2, none⟩) bd).trans HD0.out.c2
      have jz := fun i => (World.frozen?_of_block (a := ⟨d, i, none⟩) bd).trans (HD0.out.z i)
      have HJZ := Lib.hid jz
      have hz2 := jz 2
      obtain ⟨v, c3, hown⟩ := hr5.c3
      have HR5 := Lib.hid hr5
      have HOW := Lib.hid hown
      have HBK := Lib.hid bk
      have hd5 : d < w5.heap.size := by omega
      have HQ := Lib.hid hq
      obtain ⟨ad, cp, hv, _⟩ := hown.ns
      subst hv
      have hlc := has_cell HR5.out.has
      generalize hlm : s'.M.length = lm at hlc
      have HLM := Lib.hid hlm
      clear hlm
      clear hk hr5 hown hq bk bd jz HALL
      have hAdn : A ≠ d := by omega
      have hnH : ¬ H = d := by omega
      have hnH' : ¬ d = H := by omega
      have hdA' : ¬ d = A := by omega
      have hAd' : ¬ A = d := by omega
      have HSD : Hid (_) := Lib.hid (sd_now (W := w5.drew) j0 jd hlc jd2 hz2)
      go_upto_region 6 with fail
      go_cut [] from 25 to 32 (fun wx => ∃ wy, Below w5.heap.size w5 wy ∧ wx = wy.setCell ⟨d, 2, none⟩ (.int .i64 (lm : Int)))
      case first =>
        go_region_held3 (fun w' => w'.cell? ⟨H, 0, none⟩ = some (.pointer (some ⟨d, 0, none⟩)) ∧ w'.cell? ⟨d, 0, none⟩ = some (.pointer (some ⟨A, 0, none⟩)) ∧ w'.cell? ⟨A, 385, none⟩ = some (.int .i64 (lm : Int)) ∧ w'.cell? ⟨d, 2, none⟩ = some (Tt.val w' d 2) ∧ w'.frozen? ⟨d, 2, none⟩ = false)
          ((first | (with_reducible assumption) | exact HSD.out | exact sd_store _ hnH hAdn (by assumption)))
          ((go_at_call 63; refine (len_cell (v := .int .i64 (lm : Int)) ?_).mono ?_; (first | assumption | (simp [*]; done)); rintro e w' ⟨rfl, rfl⟩))
        all_goals (go_wp2_with fail; go_meet)
        all_goals exact ⟨_, Below.drew (Below.refl _ _), rfl⟩
      case rest =>
        obtain ⟨wy, hby, hwx⟩ := hcut
        obtain ⟨w6, rfl⟩ : ∃ w6 : World, w6 = wc := ⟨_, rfl⟩
        have hrl5 := HR5.out.lt
        have hb6 : ∀ k, k < w5.heap.size → k ≠ d → w6.heap[k]? = w5.heap[k]? := fun k h1 h2 => by rw [hwx, Below.heap_setCell _ _ _ _ (show k ≠ d from h2)]; exact hby.block k h1
        have c36 := (World.cell?_of_block (a := ⟨H + 1 + 1 + 1, 3, none⟩) (hb6 (H + 1 + 1 + 1) (by omega) (by omega))).trans c3
        have p1 := (World.cell?_of_block (a := ⟨H + 1, 0, none⟩) (hb6 (H + 1) (by omega) (by omega))).trans j1
        have p2 := (World.cell?_of_block (a := ⟨H + 1 + 1, 0, none⟩) (hb6 (H + 1 + 1) (by omega) (by omega))).trans j2
        have o1 := (World.frozen?_of_block (a := ⟨H + 1, 0, none⟩) (hb6 (H + 1) (by omega) (by omega))).trans g1
        have o2 := (World.frozen?_of_block (a := ⟨H + 1 + 1, 0, none⟩) (hb6 (H + 1 + 1) (by omega) (by omega))).trans g2
        clear j0 j1 j2 g1 g2 k0 k1 k2 f1 f2 c3
        have HB6 := Lib.hid hb6
        have HWX := Lib.hid hwx
        have HBY := Lib.hid hby
        clear hb6 hwx hby
        have HX7 : Hid (∀ W, W = (w6.setCell ⟨H + 1, 0, none⟩ (.slice ad s'.out.length cp)).setCell ⟨H + 1 + 1, 0, none⟩ .nilIface → W.cell? ⟨H + 1, 0, none⟩ = some (.slice ad s'.out.length cp) ∧ W.cell? ⟨H + 1 + 1, 0, none⟩ = some .nilIface ∧ Kq H A d w W ∧ NOwn W H (.slice ad s'.out.length cp) s'.out ∧ Dc W d A limit s'.m s'.M) := Lib.hid (by
          rintro W rfl
          have b7 : ∀ k, k ≠ H + 1 → k ≠ H + 1 + 1 → ((w6.setCell ⟨H + 1, 0, none⟩ (.slice ad s'.out.length cp)).setCell ⟨H + 1 + 1, 0, none⟩ .nilIface).heap[k]? = w6.heap[k]? := fun k a1 a2 => by rw [Below.heap_setCell _ _ _ _ (show k ≠ H + 1 + 1 from a2), Below.heap_setCell _ _ _ _ (show k ≠ H + 1 from a1)]
          have s7 : ((w6.setCell ⟨H + 1, 0, none⟩ (.slice ad s'.out.length cp)).setCell ⟨H + 1 + 1, 0, none⟩ .nilIface).heap.size = w6.heap.size := by simp [World.setCell]
          have s6 : w5.heap.size ≤ w6.heap.size := by have h1 := HBY.out.size; have h2 : w6.heap.size = wy.heap.size := by rw [HWX.out]; simp [World.setCell]
                                                      omega
          have bd7 := b7 d (by omega) (by omega)
          have d6 : ∀ i, i ≠ 2 → w6.cell? ⟨d, i, none⟩ = w5.cell? ⟨d, i, none⟩ := fun i hi => by rw [HWX.out, cell_setN _ _ _ _ _ (Ne.symm hi)]; exact HBY.out.cell (p := ⟨d, i, none⟩) hd5
          refine ⟨?_, ?_, ?_, ?_, ?_⟩
          · rw [World.cell?_of_block (a := ⟨H + 1, 0, none⟩) (Below.heap_setCell _ _ _ _ (show H + 1 ≠ H + 1 + 1 by omega))]; exact cell_setS _ _ _ _ _ p1
          · exact cell_setS _ _ _ _ _ ((World.cell?_of_block (a := ⟨H + 1 + 1, 0, none⟩) (Below.heap_setCell _ _ _ _ (show H + 1 + 1 ≠ H + 1 by omega))).trans p2)
          · have hos : w6.os = w5.os := by rw [HWX.out]; exact HBY.out.os
            have htp : w6.tape = w5.tape := by rw [HWX.out]; exact HBY.out.tape
            have hou : w6.output = w5.output := by rw [HWX.out]; exact HBY.out.output
            exact ⟨((hos.trans HQ.out.os).trans HBC.out.os).trans HB0.out.os, ((htp.trans HQ.out.tape).trans HBC.out.tape).trans HB0.out.tape, ((hou.trans HQ.out.output).trans HBC.out.output).trans HB0.out.output, by have := HB0.out.size; omega,
              fun k a1 a2 a3 => (((b7 k (by omega) (by omega)).trans (HB6.out k (by omega) a3)).trans (HBK.out k (by omega) a2)).trans (HB0.out.block k (by rw [HHS.out]; exact a1))⟩
          · have ho5 : NOwn w5 H (.slice ad s'.out.length cp) s'.out := HOW.out.mono (by omega)
            refine ho5.blk fun g hg => ?_
            have hgl := World.ownsRow.lt HOW.out g hg
            exact (b7 g (by omega) (by omega)).trans (HB6.out g hgl.2 (by omega))
          · refine ⟨(World.cell?_of_block (a := ⟨d, 0, none⟩) bd7).trans ((d6 0 (by omega)).trans jd), (World.cell?_of_block (a := ⟨d, 1, none⟩) bd7).trans ((d6 1 (by omega)).trans jd1), ?_, fun i => ?_, ?_, HD0.out.ne, HR5.out.m, HD0.out.lim, HD0.out.glob⟩
            · rw [World.cell?_of_block (a := ⟨d, 2, none⟩) bd7, HWX.out, HLM.out]
              exact cell_setS _ _ _ _ _ ((HBY.out.cell (p := ⟨d, 2, none⟩) hd5).trans jd2)
            · rw [World.frozen?_of_block (a := ⟨d, i, none⟩) bd7, HWX.out, World.frozen?_setCell, HBY.out.frozen (p := ⟨d, i, none⟩) hd5]
              exact HJZ.out i
            · exact HR5.out.has.blk ((b7 A (by omega) (by omega)).trans (HB6.out A (by omega) hAdn)))
        clear jd jd1 jd2 hz2 hlc
        go_wp2
        obtain ⟨q1, q2, q3, q4, q5⟩ := HX7.out _ rfl
        refine leaves_cons (f := 61) (args := #[.pointer (some ⟨H, 0, none⟩), .pointer (some ⟨H + 1, 0, none⟩), .pointer (some ⟨H + 1 + 1, 0, none⟩)]) (by simp) (by simp [go_sem]) ?_
        refine (catch_idle ⟨H, 0, none⟩ ⟨H + 1, 0, none⟩ ⟨H + 1 + 1, 0, none⟩ _).mono ?_
        rintro e u' w'' ⟨rfl, rfl, rfl⟩
        have HQ3 := Lib.hid q3
        have HQ4 := Lib.hid q4
        have HQ5 := Lib.hid q5
        clear q3 q4 q5
        simp [Leaves, settle, results, Tryd.results36, go_sem, q1, q2]
        exact ⟨by rw [HHS.out]; exact HQ3.out, by rw [HRES.out]; exact ⟨_, rfl, by rw [HHS.out]; exact HQ4.out, HQ5.out⟩⟩
end Go.Proofs.YtlkieeindnpidaaDoor
