/-
  CONTRACTS: Open.
-/
import Derived.Test.YtefdkbdblocikaaDoorRd
namespace Go.Proofs.YtefdkbdblocikaaDoor
open Go.RowKit Hu

theorem sl_at {w : World} {a : Option Addr} {n c : Nat} {l : List UInt8} (h : Sl w a n c l) : ∀ p, a = some p → 0 < n → p.block < w.heap.size := by
  intro p hp h0
  obtain ⟨b, o, e, hc⟩ := h.row 0 (by have := h.len; omega)
  rw [hp] at e
  cases e
  exact Hu.cell_lt hc
theorem SOwn.at_ {w w' : World} {B : Nat} {v : Value} {S : List (Int × Int)} (h : SOwn w B v S) (hb : ∀ g, B ≤ g → g < w.heap.size → w'.heap[g]? = w.heap[g]?) : SOwn w' B v S := by
  obtain ⟨h1, h2⟩ := h
  refine ⟨h1, ?_⟩
  rcases h2 with h2 | ⟨g, cap, cur, hv, hg, hh, q⟩
  · exact Or.inl h2
  · exact Or.inr ⟨g, cap, cur, hv, hg, (hb g hg (Array.getElem?_eq_some_iff.1 hh).1).trans hh, q⟩
theorem own_old {w w' : World} {B : Nat} {v : Value} {l : List UInt8} (h : Hu.Own w B v l) (hb : ∀ g, B ≤ g → g < w.heap.size → w'.heap[g]? = w.heap[g]?) : Hu.Own w' B v l := by
  obtain ⟨h1, h2⟩ := h
  refine ⟨h1, ?_⟩
  rcases h2 with h2 | ⟨g, cap, cur, hv, hg, hh, q⟩
  · exact Or.inl h2
  · exact Or.inr ⟨g, cap, cur, hv, hg, (hb g hg (Array.getElem?_eq_some_iff.1 hh).1).trans hh, q⟩
/-- What said answers, as plain data. -/
def SaidM (pn : Nat) (x : Except (Int × Int) (IV × List (Int × Int) × List UInt8)) (w : World) (e : Ending) (w' : World) : Prop := Below w.heap.size w w' ∧ match x with
  | .error (k, s) => ∃ v, e = .returned (.tuple #[(iv0 0 0 0).val, v]) ∧ HErr w' w.heap.size v k s
  | .ok (I, S, d) => ∃ (J : IV) (a : Option Addr) (n c : Nat), e = .returned (.tuple #[J.val, .nilIface]) ∧ J = { I with sv := J.sv, dv := .slice a n c } ∧ SOwn w' w.heap.size J.sv S ∧ Sl w' a n c d ∧ n ≤ pn
theorem ahead_len {ty fl st : Int} {l m : List UInt8} {I : IV} (h : ahead ty fl st l = .ok (I, m)) : m.length ≤ l.length := by
  unfold ahead at h
  split at h
  · cases h
  · exact (unpad_same h).2.2
theorem said_m (ty fl st : Int) (pa : Option Addr) (pn pc : Nat) (l : List UInt8) (w : World) (hp : Sl w pa pn pc l) (hn : pn ≤ 20000000) (hty : (Lit.int .i64 ty).wf = true) (hpb : ∀ q, pa = some q → 0 < pn → q.block < w.heap.size) (hr : Reads ty) :
    Calls Tryd.prog 40 #[frV ty fl st pa pn pc] w (SaidM pn (openM ty fl st l) w) := by
  refine (said_reads ty fl st pa pn pc l w hp hn hty hpb hr).mono ?_
  rintro e w' ⟨hb, hm⟩
  refine ⟨hb, ?_⟩
  unfold openM
  cases ha : ahead ty fl st l with
  | error x =>
    rw [ha] at hm
    exact hm
  | ok Im =>
    obtain ⟨I, m⟩ := Im
    rw [ha] at hm
    obtain ⟨B, a, n, c, hB, hs, _, hm⟩ := hm
    have hml := ahead_len ha
    have h1 := hs.len
    have h2 := hp.len
    unfold rdF at hm
    simp only
    cases hrd : readM ty I m with
    | error x =>
      rw [hrd] at hm
      exact hm
    | ok y =>
      obtain ⟨I', S, d⟩ := y
      rw [hrd] at hm
      obtain ⟨J, he, hJ, hS, hD⟩ := hm
      obtain ⟨a', n', c', hx, hsl, hle⟩ := hD.sl hs
      rw [hx] at hJ
      exact ⟨J, a', n', c', he, hJ, hS.mono hB, hsl, by omega⟩
/-- What Open answers. -/
def OpenPost (x : Except (Int × Int) (IV × List (Int × Int) × List UInt8)) (w : World) (e : Ending) (w' : World) : Prop := Below w.heap.size w w' ∧ match x with
  | .error (k, s) => ∃ v, e = .returned (.tuple #[(iv0 0 0 0).val, v]) ∧ HErr w' w.heap.size v k s
  | .ok (I, S, d) => ∃ (J : IV) (a : Option Addr) (n c : Nat), e = .returned (.tuple #[J.val, .nilIface]) ∧ J = { I with sv := J.sv, dv := .slice a n c } ∧ SOwn w' w.heap.size J.sv S ∧ Hu.Own w' w.heap.size (.slice a n c) d
set_option maxRecDepth 100000 in
set_option maxHeartbeats 4000000 in
theorem open_any (ty fl st : Int) (pa : Option Addr) (pn pc : Nat) (l : List UInt8) (w : World) (hp : Sl w pa pn pc l) (hn : pn ≤ 20000000) (hty : (Lit.int .i64 ty).wf = true) (hr : Reads ty) :
    Calls Tryd.prog 20 #[frV ty fl st pa pn pc] w (OpenPost (openM ty fl st l) w) := by
  have hF0 := fb_new w ty fl st pa pn pc
  have hz0 : ((w.alloc (.cells #[.int .i64 ty, .int .i64 fl, .int .i64 st, .slice pa pn pc] 24)).alloc (.cells #[.int .i64 0, .int .i64 0, .int .i64 0, .bool false, .bool false, .bool false, .bool false, .bool false, .bool false, .int .i64 0, .int .i64 0, .int .i64 0, .int .i64 0, .int .i64 0, .int .i64 0, .int .i64 0, .slice none 0 0, .slice none 0 0] 47)).heap.size = w.heap.size + 1 + 1 := by simp
  have hr0 := ib_new (w.alloc (.cells #[.int .i64 ty, .int .i64 fl, .int .i64 st, .slice pa pn pc] 24)) (iv0 0 0 0)
  have hb0 : Below w.heap.size w ((w.alloc (.cells #[.int .i64 ty, .int .i64 fl, .int .i64 st, .slice pa pn pc] 24)).alloc (.cells #[.int .i64 0, .int .i64 0, .int .i64 0, .bool false, .bool false, .bool false, .bool false, .bool false, .bool false, .int .i64 0, .int .i64 0, .int .i64 0, .int .i64 0, .int .i64 0, .int .i64 0, .int .i64 0, .slice none 0 0, .slice none 0 0] 47)) := ((Below.refl _ w).alloc (Nat.le_refl _) _).alloc (by simp) _
  have hF1 := hF0.kept (B := w.heap.size + 1) (w' := (w.alloc (.cells #[.int .i64 ty, .int .i64 fl, .int .i64 st, .slice pa pn pc] 24)).alloc (.cells #[.int .i64 0, .int .i64 0, .int .i64 0, .bool false, .bool false, .bool false, .bool false, .bool false, .bool false, .int .i64 0, .int .i64 0, .int .i64 0, .int .i64 0, .int .i64 0, .int .i64 0, .int .i64 0, .slice none 0 0, .slice none 0 0] 47)) ((Below.refl _ _).alloc (by simp) _) (by omega)
  have hp0 := hp.kept hb0
  simp only [iv0, World.size_alloc] at hr0
  generalize hw0 : (w.alloc (.cells #[.int .i64 ty, .int .i64 fl, .int .i64 st, .slice pa pn pc] 24)).alloc (.cells #[.int .i64 0, .int .i64 0, .int .i64 0, .bool false, .bool false, .bool false, .bool false, .bool false, .bool false, .int .i64 0, .int .i64 0, .int .i64 0, .int .i64 0, .int .i64 0, .int .i64 0, .int .i64 0, .slice none 0 0, .slice none 0 0] 47) = w0 at hz0 hr0 hb0 hF1 hp0
  have hpb : ∀ q, pa = some q → 0 < pn → q.block < w0.heap.size := fun q hq h0 => by
    obtain ⟨b, o, e, hc⟩ := hp0.row 0 (by have := hp0.len; omega)
    rw [hq] at e
    cases e
    exact Hu.cell_lt hc
  have HSD := Lib.hid (said_m ty fl st pa pn pc l w0 hp0 hn hty hpb hr)
  have HW0 := Lib.hid hw0
  have HR0 := Lib.hid hr0
  have HB0 := Lib.hid hb0
  have HZ0 := Lib.hid hz0
  obtain ⟨f0, f1, f2, f3⟩ := hF1
  clear hF0 hr0 hb0 hw0 hp hpb hty hr hp0 hz0
  generalize hpz : w.heap.size = p at f0 f1 f2 f3 HR0 HZ0
  have HP := Lib.hid hpz
  clear hpz
  cases ho : openM ty fl st l with
  | error ks =>
    obtain ⟨k, s⟩ := ks
    rw [ho] at HSD
    clear ho
    go_enter Tryd.func20, Tryd.ntmps20
    go_upto_region 1 with fail
    rw [HW0.out, HP.out]
    go_wp2_with fail
    refine HSD.out.mono ?_
    rintro e w1 ⟨hb1, v, rfl, hv⟩
    have HV := Lib.hid hv
    obtain ⟨g, hg, hvg, _, _⟩ := hv
    subst hvg
    have hz1 := hb1.size
    have HB1 := Lib.hid hb1
    have hI2 := ib_new w1 (iv0 0 0 0)
    have HR1 := Lib.hid (HR0.out.kept hb1 (by have := HZ0.out; omega))
    have HI2 := Lib.hid hI2
    have HB2 := Lib.hid ((Below.refl _ w1).alloc (Nat.le_refl _) (.cells #[.int .i64 0, .int .i64 0, .int .i64 0, .bool false, .bool false, .bool false, .bool false, .bool false, .bool false, .int .i64 0, .int .i64 0, .int .i64 0, .int .i64 0, .int .i64 0, .int .i64 0, .int .i64 0, .slice none 0 0, .slice none 0 0] 47))
    clear hb1 hI2
    go_wp2_with (first | (refine wp_store_info rfl _ _ rfl w1.heap.size (iv0 0 0 0) (iv0 0 0 0) HI2.out rfl rfl rfl rfl ?_; intro w3 hI3 hk3 hz3; (have HK3 := Lib.hid hk3); (have HR3 := Lib.hid ((HR1.out.kept HB2.out (by have := HZ0.out; omega)).blk (hk3.block (p + 1) (by have := HZ0.out; simp; omega) (by have := HZ0.out; omega)))); clear hI3 hk3) | (refine wp_store_info rfl _ _ rfl (p + 1) (iv0 0 0 0) (iv0 0 0 0) HR3.out rfl rfl rfl rfl ?_; intro w4 hI4 hk4 hz4; (have HI4 := Lib.hid hI4); (have HK4 := Lib.hid hk4); clear hI4 hk4))
    refine bodyPost_ret (res_info Tryd.results20 HI4.out _ _ rfl rfl) rfl ?_
    have hz0 := HZ0.out
    have h1 := HB1.out.size
    have hB : Below p w0 w4 := (HB1.out.mono (by omega)).trans (((HB2.out.mono (by omega)).trans (HK3.out.below (by omega) (by simp; omega))).trans (HK4.out.below (by omega) (by rw [hz3]; simp; omega)))
    refine ⟨HB0.out.trans (hB.mono (by rw [HP.out]; omega)), _, rfl, ?_⟩
    refine (HV.out.blk fun g h1 h2 => ?_).mono (by rw [HP.out]; omega)
    rw [HK4.out.block g (by rw [hz3]; simp; omega) (by omega), HK3.out.block g (by simp; omega) (by omega), HB2.out.block g h2]
  | ok y =>
    obtain ⟨I, S, d⟩ := y
    rw [ho] at HSD
    clear ho
    go_enter Tryd.func20, Tryd.ntmps20
    go_upto_region 1 with fail
    rw [HW0.out, HP.out]
    go_wp2_with fail
    refine HSD.out.mono ?_
    rintro e w1 ⟨hb1, J, a, n, c, rfl, hJ, hS, hsl, hnle⟩
    have hz1 := hb1.size
    have HB1 := Lib.hid hb1
    have HR1 := Lib.hid (HR0.out.kept hb1 (by have := HZ0.out; omega))
    have HI2 := Lib.hid (ib_new w1 (iv0 0 0 0))
    have HB2 := Lib.hid ((Below.refl _ w1).alloc (Nat.le_refl _) (.cells #[.int .i64 0, .int .i64 0, .int .i64 0, .bool false, .bool false, .bool false, .bool false, .bool false, .bool false, .int .i64 0, .int .i64 0, .int .i64 0, .int .i64 0, .int .i64 0, .int .i64 0, .int .i64 0, .slice none 0 0, .slice none 0 0] 47))
    have HZ2 : Hid ((w1.alloc (.cells #[.int .i64 0, .int .i64 0, .int .i64 0, .bool false, .bool false, .bool false, .bool false, .bool false, .bool false, .int .i64 0, .int .i64 0, .int .i64 0, .int .i64 0, .int .i64 0, .int .i64 0, .int .i64 0, .slice none 0 0, .slice none 0 0] 47)).heap.size = w1.heap.size + 1) := Lib.hid (by simp)
    have HJ := Lib.hid hJ
    have HSO := Lib.hid hS.one
    have HDO : Hid (J.dv.oneCell' = true) := Lib.hid (by rw [hJ]; rfl)
    have HS := Lib.hid hS
    have HSL := Lib.hid hsl
    have hdv : J.dv = .slice a n c := by rw [hJ]
    have HDV := Lib.hid hdv
    clear hb1 hJ hS hsl hdv HSD f0 f1 f2 f3
    go_wp2_with (first | (refine wp_store_info rfl _ _ rfl w1.heap.size (iv0 0 0 0) J HI2.out rfl rfl HSO.out HDO.out ?_; intro w3 hI3 hk3 hz3; (have HK3 := Lib.hid hk3); (have HI3 := Lib.hid hI3); (have HZ3 := Lib.hid hz3); (have c17 := HI3.out.c 17 _ rfl); (rw [HDV.out] at c17); (have hs3 := sl_kb (HSL.out.kept HB2.out) hk3 (fun q h1 h2 => by have := sl_at HSL.out q h1 h2; omega)); (have HCL := Lib.hid (clone_any a n c d w3 hs3 (by omega))); clear hI3 hk3 hz3 hs3) | ((with_reducible refine HCL.out.mono ?_); rintro e w5 ⟨a5, N5, c5, rfl, hN5, ho5, hb5⟩; (have HO5 := Lib.hid ho5); (have HB5 := Lib.hid hb5); (have HI5 := Lib.hid (HI3.out.old hb5)); clear ho5 hb5 c17; (have c17 := HI5.out.c 17 _ rfl); (rw [HDV.out] at c17); (have z17 := HI5.out.z 17); (have HI6 := Lib.hid (HI5.out.set 17 (.slice a5 N5 c5) { J with dv := .slice a5 N5 c5 } (by decide) rfl)); (have HR6 : Hid (Ib (w5.setCell ⟨w1.heap.size, 17, none⟩ (.slice a5 N5 c5)) (p + 1) (iv0 0 0 0)) := Lib.hid ((((HR1.out.kept HB2.out (by have := HZ0.out; omega)).blk (HK3.out.block (p + 1) (by have := HZ0.out; have := HZ2.out; omega) (by have := HZ0.out; omega))).old HB5.out).blk (Below.heap_setCell _ _ _ _ (by have := HZ0.out; simp only; omega))))) | (refine wp_load_info rfl _ rfl w1.heap.size { J with dv := .slice a5 N5 c5 } HI6.out rfl ?_) | (refine wp_store_info rfl _ _ rfl (p + 1) (iv0 0 0 0) { J with dv := .slice a5 N5 c5 } HR6.out rfl rfl HSO.out rfl ?_; intro w7 hI7 hk7 hz7; (have HI7 := Lib.hid hI7); (have HK7 := Lib.hid hk7); (have HZ7 := Lib.hid hz7); clear hI7 hk7 hz7))
    refine bodyPost_ret (res_info Tryd.results20 HI7.out _ _ rfl rfl) rfl ?_
    have hz0 := HZ0.out
    have h2 := HZ2.out
    have h3 := HZ3.out
    have h5 := HB5.out.size
    have h7 := HZ7.out
    have hB : Below p w0 w7 := (HB1.out.mono (by omega)).trans ((HB2.out.mono (by omega)).trans ((HK3.out.below (by omega) (by omega)).trans ((HB5.out.mono (by omega)).trans (((Kb.set (p := w1.heap.size) w5 17 (.slice a5 N5 c5)).below (by omega) (by omega)).trans (HK7.out.below (by omega) (by simp [World.setCell]; omega))))))
    refine ⟨HB0.out.trans (hB.mono (by rw [HP.out]; omega)), { J with dv := .slice a5 N5 c5 }, a5, N5, c5, rfl, ?_, ?_, ?_⟩
    · have := HJ.out
      rw [this]
    · refine (HS.out.at_ (w' := w7) fun g h1 h2 => ?_).mono (by rw [HP.out]; omega)
      rw [HK7.out.block g (by simp [World.setCell]; omega) (by omega), Below.heap_setCell _ _ _ _ (by simp only; omega), HB5.out.block g (by omega), HK3.out.block g (by omega) (by omega), HB2.out.block g h2]
    · refine (own_old HO5.out (w' := w7) fun g h1 h2 => ?_).mono (by rw [HP.out]; omega)
      rw [HK7.out.block g (by simp [World.setCell]; omega) (by omega), Below.heap_setCell _ _ _ _ (by simp only; omega)]
end Go.Proofs.YtefdkbdblocikaaDoor
