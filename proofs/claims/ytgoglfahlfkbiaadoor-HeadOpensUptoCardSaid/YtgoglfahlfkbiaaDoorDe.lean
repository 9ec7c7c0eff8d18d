/-
  CONTRACT of the document's Open.
-/
import Derived.Test.YtgoglfahlfkbiaaDoorDAll
import Derived.Test.YtgoglfahlfkbiaaDoorLe
namespace Go.Proofs.YtgoglfahlfkbiaaDoor
open Go.RowKit Tt

theorem ns_some {w : World} {a : Option Addr} {n c : Nat} {L : List Hn} (h : Ns w a n c L) (hl : 0 < L.length) : ∃ b o, a = some ⟨b, o, none⟩ := by
  obtain ⟨b, o, e, _⟩ := h.row 0 hl
  exact ⟨b, o, e⟩
/-- The front of a slice, wherever it lies. -/
theorem slice_hA (ad : Option Addr) (n c : Nat) (I : Nat) (h1 : I ≤ c) (w : World) :
    (Instr.slice 22 (.slice ad n c) none (some (.int .i64 (I : Int))) none).run Tryd.prog w = .ok (.slice ad I c) w := by
  rw [run_slice_h w _ _ _ _ elemN .i64 (I : Int) (by omega) (by omega), sizeOfN]
  show Result.ok (Value.slice (if c = 0 then ad else ad.map (·.add (0 * 3))) I c) w = _
  cases ad <;> simp [Addr.add]
theorem full_size (v : ByteArray) : fullB v = decide (0 < v.size) := by
  unfold fullB
  rw [Lib.toList_data]
  obtain ⟨⟨l⟩⟩ := v
  cases l <;> simp [ByteArray.size]
theorem pre_at' (c : UInt8) (s : ByteArray) (h : 0 < s.size) : pre1 c s = decide (s[0] = c) := by
  obtain ⟨⟨l⟩⟩ := s
  cases l with
  | nil => exact absurd h (by decide)
  | cons d l =>
    show Lib.hasPrefix (d :: l) [c] = decide (d = c)
    unfold Lib.hasPrefix
    by_cases e : d = c
    · subst e; simp
    · have e' : (c == d) = false := by rw [beq_eq_false_iff_ne]; exact fun h => e h.symm
      show (c == d && [].isPrefixOf l) = decide (d = c)
      rw [e', decide_eq_false e]
      rfl
theorem beq_dec (s : ByteArray) (l : List UInt8) : (s.toList == l) = decide (s.data.toList = l) := by
  rw [Lib.toList_data, Bool.eq_iff_iff]
  simp
theorem mark_eq (x : ByteArray) : markB x = ((x.toList == mL) || (x.toList == sL) || (x.toList == pL) || (x.toList == aL)) := by
  rw [beq_dec, beq_dec, beq_dec, beq_dec]
  unfold markB
  cases decide (x.data.toList = mL) <;> cases decide (x.data.toList = sL) <;> cases decide (x.data.toList = aL) <;> cases decide (x.data.toList = pL) <;> rfl
/-- What an i-th header with a colon must be. -/
def goodI (F : List Hn) (h : Hn) : Bool := markB h.1.1 && decide ((valsM F (nmL h)).length ≤ 1) && valueB h.1.2
theorem dok_yes {F : List Hn} (h : ∀ i (h : i < F.length), goodI F F[i] = true) : dokF F = true := by
  unfold dokF
  rw [List.all_eq_true]
  intro x hx
  obtain ⟨i, hi, rfl⟩ := List.mem_iff_getElem.1 hx
  exact h i hi
theorem dok_no {F : List Hn} {i : Nat} (hi : i < F.length) (h : goodI F F[i] = false) : dokF F = false := by
  unfold dokF
  rw [List.all_eq_false]
  exact ⟨F[i], List.getElem_mem _, by rw [show (markB F[i].1.1 && decide ((valsM F (nmL F[i])).length ≤ 1) && valueB F[i].1.2) = false from h]; simp⟩
def DOpenPost (L : List Hn) (w : World) (e : Ending) (w' : World) : Prop := Below w.heap.size w w' ∧ match dopen L with
  | none => e = .returned (.tuple #[reqV q0 (.slice none 0 0), .int .i64 112])
  | some (q, R) => ∃ a N c, e = .returned (.tuple #[reqV q (.slice a N c), .int .i64 0]) ∧ NOwn w' w.heap.size (.slice a N c) R
theorem cells_kept {w w' : World} {r : Nat} {cs : Array Value} {t : TypeId} (h : w.heap[r]? = some (.cells cs t (0, 0))) (hb : w'.heap[r]? = w.heap[r]?) :
    w'.cell? ⟨r, 0, none⟩ = cs[0]? ∧ w'.cell? ⟨r, 1, none⟩ = cs[1]? ∧ w'.cell? ⟨r, 2, none⟩ = cs[2]? ∧ w'.cell? ⟨r, 3, none⟩ = cs[3]? ∧ w'.cell? ⟨r, 4, none⟩ = cs[4]? ∧ ∀ i, w'.frozen? ⟨r, i, none⟩ = false := by
  have hh := hb.trans h
  refine ⟨?_, ?_, ?_, ?_, ?_, fun i => ?_⟩
  all_goals simp [World.cell?, World.frozen?, hh]
theorem five_set {w : World} {r : Nat} {v0 v1 v2 v3 v4 : Value} (u0 u1 u2 u3 u4 : Value) (c0 : w.cell? ⟨r, 0, none⟩ = some v0) (c1 : w.cell? ⟨r, 1, none⟩ = some v1) (c2 : w.cell? ⟨r, 2, none⟩ = some v2) (c3 : w.cell? ⟨r, 3, none⟩ = some v3) (c4 : w.cell? ⟨r, 4, none⟩ = some v4) {B : Nat} {w00 : World} (hB : Below B w00 w) (hr : B ≤ r) :
    ∃ W, W = ((((w.setCell ⟨r, 0, none⟩ u0).setCell ⟨r, 1, none⟩ u1).setCell ⟨r, 2, none⟩ u2).setCell ⟨r, 3, none⟩ u3).setCell ⟨r, 4, none⟩ u4 ∧ W.cell? ⟨r, 0, none⟩ = some u0 ∧ W.cell? ⟨r, 1, none⟩ = some u1 ∧ W.cell? ⟨r, 2, none⟩ = some u2 ∧ W.cell? ⟨r, 3, none⟩ = some u3 ∧ W.cell? ⟨r, 4, none⟩ = some u4 ∧ Below B w00 W ∧ (∀ k, k ≠ r → W.heap[k]? = w.heap[k]?) ∧ W.heap.size = w.heap.size := by
  refine ⟨_, rfl, ?_, ?_, ?_, ?_, ?_, ((((hB.setCell hr _).setCell hr _).setCell hr _).setCell hr _).setCell hr _, fun k hk => ?_, by simp [World.setCell]⟩
  · rw [cell_setN _ _ _ _ _ (by decide), cell_setN _ _ _ _ _ (by decide), cell_setN _ _ _ _ _ (by decide), cell_setN _ _ _ _ _ (by decide)]
    exact cell_setS _ _ _ _ _ c0
  · rw [cell_setN _ _ _ _ _ (by decide), cell_setN _ _ _ _ _ (by decide), cell_setN _ _ _ _ _ (by decide)]
    exact cell_setS _ _ _ _ _ ((cell_setN _ _ _ _ _ (by decide)).trans c1)
  · rw [cell_setN _ _ _ _ _ (by decide), cell_setN _ _ _ _ _ (by decide)]
    exact cell_setS _ _ _ _ _ ((cell_setN _ _ _ _ _ (by decide)).trans ((cell_setN _ _ _ _ _ (by decide)).trans c2))
  · rw [cell_setN _ _ _ _ _ (by decide)]
    exact cell_setS _ _ _ _ _ ((cell_setN _ _ _ _ _ (by decide)).trans ((cell_setN _ _ _ _ _ (by decide)).trans ((cell_setN _ _ _ _ _ (by decide)).trans c3)))
  · exact cell_setS _ _ _ _ _ ((cell_setN _ _ _ _ _ (by decide)).trans ((cell_setN _ _ _ _ _ (by decide)).trans ((cell_setN _ _ _ _ _ (by decide)).trans ((cell_setN _ _ _ _ _ (by decide)).trans c4))))
  · rw [Below.heap_setCell _ _ _ _ hk, Below.heap_setCell _ _ _ _ hk, Below.heap_setCell _ _ _ _ hk, Below.heap_setCell _ _ _ _ hk, Below.heap_setCell _ _ _ _ hk]
theorem ret_two {L : List Hn} {w W : World} {a : Act} {r : Nat} {x0 x1 x2 x3 x4 c : Value} (h2 : a.tmps.getD 2 undef = .pointer (some ⟨r, 0, none⟩)) (h3 : a.tmps.getD 3 undef = c) (hd : a.defers = [])
    (k0 : W.cell? ⟨r, 0, none⟩ = some x0) (k1 : W.cell? ⟨r, 1, none⟩ = some x1) (k2 : W.cell? ⟨r, 2, none⟩ = some x2) (k3 : W.cell? ⟨r, 3, none⟩ = some x3) (k4 : W.cell? ⟨r, 4, none⟩ = some x4)
    (hp : DOpenPost L w (.returned (.tuple #[.agg #[x0, x1, x2, x3, x4], c])) W) : bodyPost Tryd.prog Tryd.f12 (DOpenPost L w) Exit.ret a W := by
  refine bodyPost_ret (v := .tuple #[.agg #[x0, x1, x2, x3, x4], c]) ?_ hd hp
  obtain ⟨ts, ds⟩ := a
  simp only [Array.getD_eq_getD_getElem?] at h2 h3
  simp [results, Tryd.results12, go_sem, h2, h3, k0, k1, k2, k3, k4]
set_option maxRecDepth 100000 in
set_option maxHeartbeats 4000000 in
theorem dopen_any (ad : Option Addr) (n c : Nat) (L : List Hn) (w : World) (hs : Ns w ad n c L) (hm : Sm L) (hn : n ≤ 1000) : Calls Tryd.prog 12 #[.slice ad n c] w (DOpenPost L w) := by
  have hb0 : Below w.heap.size w (w.alloc (.cells #[.string ⟨#[]⟩, .string ⟨#[]⟩, .string ⟨#[]⟩, .string ⟨#[]⟩, .slice none 0 0] 32)) := (Below.refl _ w).alloc (Nat.le_refl _) _
  have p0 : (w.alloc (.cells #[.string ⟨#[]⟩, .string ⟨#[]⟩, .string ⟨#[]⟩, .string ⟨#[]⟩, .slice none 0 0] 32)).heap[w.heap.size]? = some (.cells #[.string ⟨#[]⟩, .string ⟨#[]⟩, .string ⟨#[]⟩, .string ⟨#[]⟩, .slice none 0 0] 32 (0, 0)) := by
    show (w.heap.push _)[w.heap.size]? = _
    exact Array.getElem?_push_size
  have hz0 : (w.alloc (.cells #[.string ⟨#[]⟩, .string ⟨#[]⟩, .string ⟨#[]⟩, .string ⟨#[]⟩, .slice none 0 0] 32)).heap.size = w.heap.size + 1 := by simp
  have hle := hs.le
  obtain ⟨ft1, ft2, ft3⟩ := front_take L
  have hlen := hs.len
  have HS := Lib.hid hs
  have HL := Lib.hid hlen
  have HM := Lib.hid hm
  generalize hw0 : w.alloc (.cells #[.string ⟨#[]⟩, .string ⟨#[]⟩, .string ⟨#[]⟩, .string ⟨#[]⟩, .slice none 0 0] 32) = w0 at hb0 p0 hz0
  have HFR := Lib.hid (front_any ad n c L w0 (hs.kept hb0))
  have HD : Hid (dopen L = if dfine (L.take (frontN L)) (L.drop (frontN L)) = true then some (reqF (L.take (frontN L)), L.drop (frontN L)) else none) := Lib.hid (by rw [ft1, ft2]; rfl)
  have hf : frontN L ≤ n := by omega
  have HFL : Hid ((L.take (frontN L)).length = frontN L) := Lib.hid (by simp; omega)
  generalize frontN L = f at HFR HD hf HFL
  have HW0 := Lib.hid hw0
  have HB0 := Lib.hid hb0
  have HP0 := Lib.hid p0
  clear hs hm hw0 hb0 p0 ft1 ft2 ft3 hlen
  go_enter Tryd.func12, Tryd.ntmps12
  go_upto_region 1 with fail
  rw [HW0.out]
  go_wp2_with fail
  refine HFR.out.mono ?_
  rintro e w1 ⟨rfl, hb1⟩
  have HB1 := Lib.hid (show Below w0.heap.size w0 w1 from hb1)
  clear hb1 HFR
  go_wp2_with fail
  go_loopw [5] (fun s5 wr => ∃ i : Nat, s5 = .int .i64 (i : Int) ∧ i ≤ f ∧ Below w0.heap.size w0 wr ∧ Hid (∀ j (h : j < (L.take f).length), j < i → goodI (L.take f) (L.take f)[j] = true)) (fun s5 _ => f - (intOf s5).toNat)
  case atStart => exact ⟨0, rfl, Nat.zero_le _, HB1.out, Lib.hid fun j _ h => by omega⟩
  case round =>
    clear HB1
    obtain ⟨i, rfl, hi, hB, HA⟩ := hrel
    by_cases hlt : i < f
    · have hBw : Below w.heap.size w wr := HB0.out.trans (hB.mono (by omega))
      obtain ⟨b, o, rfl, e0, e1, e2⟩ := (HS.out.kept hBw).row i (by rw [HL.out]; omega)
      obtain ⟨z1, z2⟩ := HM.out i (by rw [HL.out]; omega)
      have HG : Hid (∃ g, L[i]'(by rw [HL.out]; omega) = g) := Lib.hid ⟨_, rfl⟩
      obtain ⟨g, hg⟩ := HG.out
      rw [hg] at e0 e1 e2 z1 z2
      obtain ⟨⟨gn, gv⟩, gb⟩ := g
      simp only at e0 e1 e2 z1 z2
      have hgt : (L.take f)[i]'(by rw [HFL.out]; exact hlt) = ((gn, gv), gb) := by rw [List.getElem_take]; exact hg
      have hia : (0 : Int) ≤ (i : Int) := by omega
      have hib : (i : Int) < (n : Int) := by omega
      have hic : (i : Int) < (f : Int) := by omega
      have hsl := fun W => slice_hA (some ⟨b, o, none⟩) n c f (by omega) W
      have HAL := Lib.hid (dall_any (some ⟨b, o, none⟩) f c (L.take f) gn wr (ns_take (HS.out.kept hBw) f (by omega)) (by omega))
      rw [allM_vals] at HAL
      have HGT := Lib.hid hgt
      have HBR := Lib.hid hB
      have HMK : Hid (markB gn = ((gn.toList == [58, 109, 101, 116, 104, 111, 100]) || (gn.toList == [58, 115, 99, 104, 101, 109, 101]) || (gn.toList == [58, 112, 97, 116, 104]) || (gn.toList == [58, 97, 117, 116, 104, 111, 114, 105, 116, 121]))) := Lib.hid (mark_eq gn)
      clear hg hgt hB hBw HG
      go_upto_region 6 with fail
      go_cut [7] from 12 to 56 (fun s7 wx => s7 = .bool (markB gn) ∧ wr = wx)
      case first =>
        as_aux_lemma =>
          clear HAL HGT HBR HS HL HM HD HFL HA
          cases h1 : gn.toList == [58, 109, 101, 116, 104, 111, 100] with
          | true =>
            go_wp2_with fail
            go_meet
            exact ⟨congrArg Value.bool (by rw [HMK.out, h1]; rfl), rfl⟩
          | false =>
          cases h2 : gn.toList == [58, 115, 99, 104, 101, 109, 101] with
          | true =>
            go_wp2_with fail
            go_meet
            exact ⟨congrArg Value.bool (by rw [HMK.out, h1, h2]; rfl), rfl⟩
          | false =>
          cases h3 : gn.toList == [58, 112, 97, 116, 104] with
          | true =>
            go_wp2_with fail
            go_meet
            exact ⟨congrArg Value.bool (by rw [HMK.out, h1, h2, h3]; rfl), rfl⟩
          | false =>
            go_wp2_with fail
            go_meet
            exact ⟨congrArg Value.bool (by rw [HMK.out, h1, h2, h3]; rfl), rfl⟩
      case rest =>
      obtain ⟨rfl, rfl⟩ := hcut
      clear HMK
      have hgd : goodI (L.take f) ((gn, gv), gb) = (markB gn && decide ((valsM (L.take f) gn.data.toList).length ≤ 1) && valueB gv) := rfl
      have HGD := Lib.hid hgd
      clear hgd
      have hzr := HBR.out.size
      have bad : goodI (L.take f) ((gn, gv), gb) = false → Hid (dopen L = none) := fun h => Lib.hid (by
        rw [HD.out]
        have := dok_no (F := L.take f) (i := i) (by rw [HFL.out]; exact hlt) (by rw [HGT.out]; exact h)
        unfold dfine
        rw [this]
        rfl)
      have HBAD := Lib.hid bad
      clear bad
      cases hmk : markB gn with
      | false =>
        have HNO := HBAD.out (by rw [HGD.out, hmk]; rfl)
        obtain ⟨r0, r1, r2, r3, r4, rz⟩ := cells_kept (HP0.out) (HBR.out.block w.heap.size (by omega))
        have rz0 := rz 0
        have rz1 := rz 1
        have rz2 := rz 2
        have rz3 := rz 3
        have rz4 := rz 4
        obtain ⟨W5, hW5, k0, k1, k2, k3, k4, hb5, _, _⟩ := five_set (.string ⟨#[]⟩) (.string ⟨#[]⟩) (.string ⟨#[]⟩) (.string ⟨#[]⟩) (.slice none 0 0) r0 r1 r2 r3 r4 (HB0.out.trans (HBR.out.mono (by omega))) (Nat.le_refl w.heap.size)
        have HF5 := Lib.hid (⟨k0, k1, k2, k3, k4, hb5⟩ : _ ∧ _ ∧ _ ∧ _ ∧ _ ∧ _)
        have HW5 := Lib.hid hW5
        clear k0 k1 k2 k3 k4 hb5 hW5 rz
        go_wp2_with fail
        rw [← HW5.out]
        obtain ⟨k0, k1, k2, k3, k4, hb5⟩ := HF5.out
        exact ret_two rfl rfl rfl k0 k1 k2 k3 k4 ⟨hb5, by rw [HNO.out]; rfl⟩
      | true =>
        go_wp2_with fail
        refine HAL.out.mono ?_
        rintro e w2 ⟨a2, N2, c2, rfl, hN2, _, hb2⟩
        have HB2 := Lib.hid (HBR.out.trans (hb2.mono hzr))
        have hN := hN2.out
        have e1 := (hb2.cell (p := ⟨b, o + i * 3 + 1, none⟩) (Tt.cell_lt e1)).trans e1
        clear HAL hN2 hb2 e0 e2
        by_cases hl : (valsM (L.take f) gn.data.toList).length ≤ 1
        · have hd1 : decide ((1 : Int) < (N2 : Int)) = false := decide_eq_false (by omega)
          have hgl : goodI (L.take f) ((gn, gv), gb) = valueB gv := by rw [HGD.out, hmk, decide_eq_true hl]; rfl
          have HGL := Lib.hid hgl
          have HDV := Lib.hid (dvalue_any gv w2 (by omega))
          clear hl hgl hN
          go_wp2_with fail
          refine HDV.out.mono ?_
          rintro e w3 ⟨rfl, hb3⟩
          have HB3 := Lib.hid (HB2.out.trans (hb3.mono HB2.out.size))
          clear HDV hb3
          cases hv : valueB gv with
          | false =>
            have HNO := HBAD.out (by rw [HGL.out, hv])
            obtain ⟨r0, r1, r2, r3, r4, rz⟩ := cells_kept (HP0.out) (HB3.out.block w.heap.size (by omega))
            have rz0 := rz 0
            have rz1 := rz 1
            have rz2 := rz 2
            have rz3 := rz 3
            have rz4 := rz 4
            obtain ⟨W5, hW5, k0, k1, k2, k3, k4, hb5, _, _⟩ := five_set (.string ⟨#[]⟩) (.string ⟨#[]⟩) (.string ⟨#[]⟩) (.string ⟨#[]⟩) (.slice none 0 0) r0 r1 r2 r3 r4 (HB0.out.trans (HB3.out.mono (by omega))) (Nat.le_refl w.heap.size)
            have HF5 := Lib.hid (⟨k0, k1, k2, k3, k4, hb5⟩ : _ ∧ _ ∧ _ ∧ _ ∧ _ ∧ _)
            have HW5 := Lib.hid hW5
            clear k0 k1 k2 k3 k4 hb5 hW5 rz
            go_wp2_with fail
            rw [← HW5.out]
            obtain ⟨k0, k1, k2, k3, k4, hb5⟩ := HF5.out
            exact ret_two rfl rfl rfl k0 k1 k2 k3 k4 ⟨hb5, by rw [HNO.out]; rfl⟩
          | true =>
            have HGI : Hid (goodI (L.take f) ((gn, gv), gb) = true) := Lib.hid (by rw [HGL.out, hv])
            go_wp2_with fail
            exact ⟨⟨i + 1, by go_num, by omega, HB3.out, Lib.hid fun j hj h => by
              by_cases hji : j < i
              · exact HA.out j hj hji
              · obtain rfl : j = i := by omega
                rw [HGT.out]; exact HGI.out⟩, by simp [intOf]; omega⟩
        · have hd1 : decide ((1 : Int) < (N2 : Int)) = true := decide_eq_true (by omega)
          have HNO := HBAD.out (by rw [HGD.out, hmk, decide_eq_false hl]; rfl)
          clear hl hN
          obtain ⟨r0, r1, r2, r3, r4, rz⟩ := cells_kept (HP0.out) (HB2.out.block w.heap.size (by omega))
          have rz0 := rz 0
          have rz1 := rz 1
          have rz2 := rz 2
          have rz3 := rz 3
          have rz4 := rz 4
          obtain ⟨W5, hW5, k0, k1, k2, k3, k4, hb5, _, _⟩ := five_set (.string ⟨#[]⟩) (.string ⟨#[]⟩) (.string ⟨#[]⟩) (.string ⟨#[]⟩) (.slice none 0 0) r0 r1 r2 r3 r4 (HB0.out.trans (HB2.out.mono (by omega))) (Nat.le_refl w.heap.size)
          have HF5 := Lib.hid (⟨k0, k1, k2, k3, k4, hb5⟩ : _ ∧ _ ∧ _ ∧ _ ∧ _ ∧ _)
          have HW5 := Lib.hid hW5
          clear k0 k1 k2 k3 k4 hb5 hW5 rz
          go_wp2_with fail
          rw [← HW5.out]
          obtain ⟨k0, k1, k2, k3, k4, hb5⟩ := HF5.out
          exact ret_two rfl rfl rfl k0 k1 k2 k3 k4 ⟨hb5, by rw [HNO.out]; rfl⟩
    · obtain rfl : i = f := by omega
      have hok := dok_yes (F := L.take i) (fun j hj => HA.out j hj (by rw [HFL.out] at hj; exact hj))
      have HOK := Lib.hid hok
      clear hok HA
      have hBw : Below w.heap.size w wr := HB0.out.trans (hB.mono (by omega))
      have HBR := Lib.hid hB
      have HSR := Lib.hid (HS.out.kept hBw)
      have hzr := hB.size
      have hsl := fun W => slice_hA ad n c i (by omega) W
      have hslA := fun W => (run_sliceAt_slice (P := Tryd.prog) W 22 (.slice ad n c) none (some (.int .i64 (i : Int))) none elemN).trans (hsl W)
      have HFI := Lib.hid (fun (x : ByteArray) (W : World) (h : Below wr.heap.size wr W) => dfirst_any ad i c (L.take i) x W (ns_take (HSR.out.kept h) i (by omega)) (by omega))
      clear hB hBw
      have HFJ : Hid (∃ fv : ByteArray → ByteArray, (∀ x, fv x = firstM (L.take i) x.data.toList) ∧ ∀ (x : ByteArray) (W : World), Below wr.heap.size wr W → Calls Tryd.prog 37 #[.slice ad i c, .string x] W fun e w' => e = .returned (.string (fv x)) ∧ Below W.heap.size W w') := Lib.hid ⟨fun x => firstM (L.take i) x.data.toList, fun _ => rfl, fun x W h => HFI.out x W h⟩
      obtain ⟨fv, hfv, hfc⟩ := HFJ.out
      have HFV := Lib.hid hfv
      have HFC := Lib.hid hfc
      clear hfv hfc HFJ HFI
      go_upto_region 9 with fail
      go_cut [8] from 57 to 73 (fun s8 wx => ∃ Q, s8 = .pointer (some ⟨Q, 0, none⟩) ∧ wr.heap.size ≤ Q ∧ wx.heap[Q]? = some (.cells (rqC (fv (nmJ 0)) (fv (nmJ 1)) (fv (nmJ 2)) (fv (nmJ 3))) 32 (0, 0)) ∧ Below wr.heap.size wr wx)
      case first =>
        as_aux_lemma =>
          clear HOK HS HL HM HD HFL HP0 HW0 HSR HFV
          have HD0 : Hid (DI wr.heap.size wr (valJ ad n c i fv) (rqC (fv (nmJ 0)) (fv (nmJ 1)) (fv (nmJ 2)) (fv (nmJ 3))) (Array.replicate 19 false) (fun _ => undef) wr.drew) := Lib.hid (DI.start ((Below.refl _ wr).drew))
          refine wp_region_lat mixed (fun ls x W => ∃ v, x = (⟨#[Value.slice ad n c, undef, Value.pointer (some ⟨w.heap.size, 0, none⟩), u3, Value.int IntKind.i64 (i : Int), Value.int IntKind.i64 (i : Int), u6, u7, v 17, undef, Value.slice ad n c, Value.int IntKind.i64 (i : Int), Value.int IntKind.i64 (i : Int), Value.int IntKind.i64 (i : Int), Value.bool false, u15, u16, u17, u18, u19, u20, u21, u22, u23, u24, u25, u26, u27, u28, u29, u30, u31, u32, u33, u34, u35, u36, u37, u38, u39, u40, u41, u42, u43, u44, u45, u46, u47, u48, u49, u50, u51, u52, u53, u54, u55, u56, v 0, v 1, v 2, v 3, v 4, v 5, v 6, v 7, v 8, v 9, v 10, v 11, v 12, v 13, v 14, v 15, v 16, undef, undef, undef, undef, undef, undef, undef, undef, undef, undef, undef, undef, undef, undef, undef, undef, undef, undef, undef, undef, undef, undef, undef, undef, undef, undef, undef, undef, undef, undef, undef, undef, undef, undef, undef, undef, undef, undef, undef, undef, undef], []⟩ : Act) ∧ DI wr.heap.size wr (valJ ad n c i fv) (rqC (fv (nmJ 0)) (fv (nmJ 1)) (fv (nmJ 2)) (fv (nmJ 3))) ls v W) ?_ ?_ ?_
          · exact ⟨fun _ => undef, rfl, HD0.out⟩
          · intro ls x W hI hr
            obtain ⟨v, rfl, hI⟩ := hI
            have hall := all_on (by kernel_rfl) hI.sz hr
            have h17 : on ls 17 = true := hall 17 (by decide)
            have h18 : on ls 18 = true := hall 18 (by decide)
            obtain ⟨Q, hQ, hBQ, hcQ⟩ := hI.q h17
            rw [h18, if_pos rfl] at hcQ
            have hbl := hI.bl
            clear hI hall hr h17 h18
            dsimp only
            simp only [hQ]
            go_wp2_with fail
            go_meet
            exact ⟨Q, rfl, hBQ, hcQ, hbl⟩
          · intro ls x W k hI hk
            obtain ⟨v, rfl, hI⟩ := hI
            obtain ⟨hun, oo, ho, hall⟩ := mem_ready.1 hk
            have hk19 : k < 19 := (Array.getElem?_eq_some_iff.1 ho).1
            have hkc : k = 0 ∨ k = 1 ∨ k = 2 ∨ k = 3 ∨ k = 4 ∨ k = 5 ∨ k = 6 ∨ k = 7 ∨ k = 8 ∨ k = 9 ∨ k = 10 ∨ k = 11 ∨ k = 12 ∨ k = 13 ∨ k = 14 ∨ k = 15 ∨ k = 16 ∨ k = 17 ∨ k = 18 := by omega
            obtain ⟨hoff, _⟩ := off_of hun
            have hBW : wr.heap.size ≤ W.heap.size := hI.bl.size
            rcases hkc with rfl | rfl | rfl | rfl | rfl | rfl | rfl | rfl | rfl | rfl | rfl | rfl | rfl | rfl | rfl | rfl | rfl | rfl | rfl
            · have ho' : some _ = some oo := ho
              cases ho'
              exact wpOp_step rfl fun K' hK' => by
                rw [if_pos (by simp [Region.wanted])]
                refine wp_val (v := Value.slice ad n c) (w' := W) ?_ (hK' _ _ ⟨updV v 0 (valJ ad n c i fv 0), rfl, hI.step 0 (by decide) hBW (Below.refl _ _)⟩)
                simp [execOp, Act.eval, go_sem]
            · have ho' : some _ = some oo := ho
              cases ho'
              exact wpOp_step rfl fun K' hK' => by
                rw [if_pos (by simp [Region.wanted])]
                refine wp_val (v := Value.int IntKind.i64 (i : Int)) (w' := W) ?_ (hK' _ _ ⟨updV v 1 (valJ ad n c i fv 1), rfl, hI.step 1 (by decide) hBW (Below.refl _ _)⟩)
                simp [execOp, Act.eval, go_sem]
            · have ho' : some _ = some oo := ho
              cases ho'
              have d1 := hI.vs 0 (by decide) (hall ⟨0, .data⟩ (by simp) rfl)
              have d2 := hI.vs 1 (by decide) (hall ⟨1, .data⟩ (by simp) rfl)
              rw [show valJ ad n c i fv 0 = Value.slice ad n c from rfl] at d1
              rw [show valJ ad n c i fv 1 = Value.int IntKind.i64 (i : Int) from rfl] at d2
              exact wpOp_step rfl fun K' hK' => by
                rw [if_pos (by simp [Region.wanted])]
                refine wp_val (v := Value.slice ad i c) (w' := W) ?_ (hK' _ _ ⟨updV v 2 (valJ ad n c i fv 2), rfl, hI.step 2 (by decide) hBW (Below.refl _ _)⟩)
                simp [execOp, Act.eval, d1, d2, hslA, Result.andThen]
            · have ho' : some _ = some oo := ho
              cases ho'
              have d1 := hI.vs 2 (by decide) (hall ⟨2, .data⟩ (by simp) rfl)
              rw [show valJ ad n c i fv 2 = Value.slice ad i c from rfl] at d1
              exact wpOp_step rfl fun K' hK' => by
                rw [if_pos (by simp [Region.wanted])]
                refine wp_fn (f := 37) (args := #[.slice ad i c, .string (nmJ 0)]) ?_ ?_
                · simp [execOp, Act.eval, d1, nmJ, go_sem, Result.andThen]
                · refine (HFC.out (nmJ 0) W hI.bl).mono ?_
                  rintro e w' ⟨rfl, hbq⟩
                  exact ⟨_, rfl, hK' _ _ ⟨updV v 3 (valJ ad n c i fv 3), rfl, hI.step 3 (by decide) hBW hbq⟩⟩
            · have ho' : some _ = some oo := ho
              cases ho'
              exact wpOp_step rfl fun K' hK' => by
                rw [if_pos (by simp [Region.wanted])]
                refine wp_val (v := Value.slice ad n c) (w' := W) ?_ (hK' _ _ ⟨updV v 4 (valJ ad n c i fv 4), rfl, hI.step 4 (by decide) hBW (Below.refl _ _)⟩)
                simp [execOp, Act.eval, go_sem]
            · have ho' : some _ = some oo := ho
              cases ho'
              exact wpOp_step rfl fun K' hK' => by
                rw [if_pos (by simp [Region.wanted])]
                refine wp_val (v := Value.int IntKind.i64 (i : Int)) (w' := W) ?_ (hK' _ _ ⟨updV v 5 (valJ ad n c i fv 5), rfl, hI.step 5 (by decide) hBW (Below.refl _ _)⟩)
                simp [execOp, Act.eval, go_sem]
            · have ho' : some _ = some oo := ho
              cases ho'
              have d1 := hI.vs 4 (by decide) (hall ⟨4, .data⟩ (by simp) rfl)
              have d2 := hI.vs 5 (by decide) (hall ⟨5, .data⟩ (by simp) rfl)
              rw [show valJ ad n c i fv 4 = Value.slice ad n c from rfl] at d1
              rw [show valJ ad n c i fv 5 = Value.int IntKind.i64 (i : Int) from rfl] at d2
              exact wpOp_step rfl fun K' hK' => by
                rw [if_pos (by simp [Region.wanted])]
                refine wp_val (v := Value.slice ad i c) (w' := W) ?_ (hK' _ _ ⟨updV v 6 (valJ ad n c i fv 6), rfl, hI.step 6 (by decide) hBW (Below.refl _ _)⟩)
                simp [execOp, Act.eval, d1, d2, hslA, Result.andThen]
            · have ho' : some _ = some oo := ho
              cases ho'
              have d1 := hI.vs 6 (by decide) (hall ⟨6, .data⟩ (by simp) rfl)
              rw [show valJ ad n c i fv 6 = Value.slice ad i c from rfl] at d1
              exact wpOp_step rfl fun K' hK' => by
                rw [if_pos (by simp [Region.wanted])]
                refine wp_fn (f := 37) (args := #[.slice ad i c, .string (nmJ 1)]) ?_ ?_
                · simp [execOp, Act.eval, d1, nmJ, go_sem, Result.andThen]
                · refine (HFC.out (nmJ 1) W hI.bl).mono ?_
                  rintro e w' ⟨rfl, hbq⟩
                  exact ⟨_, rfl, hK' _ _ ⟨updV v 7 (valJ ad n c i fv 7), rfl, hI.step 7 (by decide) hBW hbq⟩⟩
            · have ho' : some _ = some oo := ho
              cases ho'
              exact wpOp_step rfl fun K' hK' => by
                rw [if_pos (by simp [Region.wanted])]
                refine wp_val (v := Value.slice ad n c) (w' := W) ?_ (hK' _ _ ⟨updV v 8 (valJ ad n c i fv 8), rfl, hI.step 8 (by decide) hBW (Below.refl _ _)⟩)
                simp [execOp, Act.eval, go_sem]
            · have ho' : some _ = some oo := ho
              cases ho'
              exact wpOp_step rfl fun K' hK' => by
                rw [if_pos (by simp [Region.wanted])]
                refine wp_val (v := Value.int IntKind.i64 (i : Int)) (w' := W) ?_ (hK' _ _ ⟨updV v 9 (valJ ad n c i fv 9), rfl, hI.step 9 (by decide) hBW (Below.refl _ _)⟩)
                simp [execOp, Act.eval, go_sem]
            · have ho' : some _ = some oo := ho
              cases ho'
              have d1 := hI.vs 8 (by decide) (hall ⟨8, .data⟩ (by simp) rfl)
              have d2 := hI.vs 9 (by decide) (hall ⟨9, .data⟩ (by simp) rfl)
              rw [show valJ ad n c i fv 8 = Value.slice ad n c from rfl] at d1
              rw [show valJ ad n c i fv 9 = Value.int IntKind.i64 (i : Int) from rfl] at d2
              exact wpOp_step rfl fun K' hK' => by
                rw [if_pos (by simp [Region.wanted])]
                refine wp_val (v := Value.slice ad i c) (w' := W) ?_ (hK' _ _ ⟨updV v 10 (valJ ad n c i fv 10), rfl, hI.step 10 (by decide) hBW (Below.refl _ _)⟩)
                simp [execOp, Act.eval, d1, d2, hslA, Result.andThen]
            · have ho' : some _ = some oo := ho
              cases ho'
              have d1 := hI.vs 10 (by decide) (hall ⟨10, .data⟩ (by simp) rfl)
              rw [show valJ ad n c i fv 10 = Value.slice ad i c from rfl] at d1
              exact wpOp_step rfl fun K' hK' => by
                rw [if_pos (by simp [Region.wanted])]
                refine wp_fn (f := 37) (args := #[.slice ad i c, .string (nmJ 2)]) ?_ ?_
                · simp [execOp, Act.eval, d1, nmJ, go_sem, Result.andThen]
                · refine (HFC.out (nmJ 2) W hI.bl).mono ?_
                  rintro e w' ⟨rfl, hbq⟩
                  exact ⟨_, rfl, hK' _ _ ⟨updV v 11 (valJ ad n c i fv 11), rfl, hI.step 11 (by decide) hBW hbq⟩⟩
            · have ho' : some _ = some oo := ho
              cases ho'
              exact wpOp_step rfl fun K' hK' => by
                rw [if_pos (by simp [Region.wanted])]
                refine wp_val (v := Value.slice ad n c) (w' := W) ?_ (hK' _ _ ⟨updV v 12 (valJ ad n c i fv 12), rfl, hI.step 12 (by decide) hBW (Below.refl _ _)⟩)
                simp [execOp, Act.eval, go_sem]
            · have ho' : some _ = some oo := ho
              cases ho'
              exact wpOp_step rfl fun K' hK' => by
                rw [if_pos (by simp [Region.wanted])]
                refine wp_val (v := Value.int IntKind.i64 (i : Int)) (w' := W) ?_ (hK' _ _ ⟨updV v 13 (valJ ad n c i fv 13), rfl, hI.step 13 (by decide) hBW (Below.refl _ _)⟩)
                simp [execOp, Act.eval, go_sem]
            · have ho' : some _ = some oo := ho
              cases ho'
              have d1 := hI.vs 12 (by decide) (hall ⟨12, .data⟩ (by simp) rfl)
              have d2 := hI.vs 13 (by decide) (hall ⟨13, .data⟩ (by simp) rfl)
              rw [show valJ ad n c i fv 12 = Value.slice ad n c from rfl] at d1
              rw [show valJ ad n c i fv 13 = Value.int IntKind.i64 (i : Int) from rfl] at d2
              exact wpOp_step rfl fun K' hK' => by
                rw [if_pos (by simp [Region.wanted])]
                refine wp_val (v := Value.slice ad i c) (w' := W) ?_ (hK' _ _ ⟨updV v 14 (valJ ad n c i fv 14), rfl, hI.step 14 (by decide) hBW (Below.refl _ _)⟩)
                simp [execOp, Act.eval, d1, d2, hslA, Result.andThen]
            · have ho' : some _ = some oo := ho
              cases ho'
              have d1 := hI.vs 14 (by decide) (hall ⟨14, .data⟩ (by simp) rfl)
              rw [show valJ ad n c i fv 14 = Value.slice ad i c from rfl] at d1
              exact wpOp_step rfl fun K' hK' => by
                rw [if_pos (by simp [Region.wanted])]
                refine wp_fn (f := 37) (args := #[.slice ad i c, .string (nmJ 3)]) ?_ ?_
                · simp [execOp, Act.eval, d1, nmJ, go_sem, Result.andThen]
                · refine (HFC.out (nmJ 3) W hI.bl).mono ?_
                  rintro e w' ⟨rfl, hbq⟩
                  exact ⟨_, rfl, hK' _ _ ⟨updV v 15 (valJ ad n c i fv 15), rfl, hI.step 15 (by decide) hBW hbq⟩⟩
            · have ho' : some _ = some oo := ho
              cases ho'
              have d3 := hI.vs 3 (by decide) (hall ⟨3, .data⟩ (by simp) rfl)
              have d7 := hI.vs 7 (by decide) (hall ⟨7, .data⟩ (by simp) rfl)
              have d11 := hI.vs 11 (by decide) (hall ⟨11, .data⟩ (by simp) rfl)
              have d15 := hI.vs 15 (by decide) (hall ⟨15, .data⟩ (by simp) rfl)
              rw [show valJ ad n c i fv 3 = Value.string (fv (nmJ 0)) from rfl] at d3
              rw [show valJ ad n c i fv 7 = Value.string (fv (nmJ 1)) from rfl] at d7
              rw [show valJ ad n c i fv 11 = Value.string (fv (nmJ 2)) from rfl] at d11
              rw [show valJ ad n c i fv 15 = Value.string (fv (nmJ 3)) from rfl] at d15
              exact wpOp_step rfl fun K' hK' => by
                rw [if_pos (by simp [Region.wanted])]
                refine wp_val (v := valJ ad n c i fv 16) (w' := W) ?_ (hK' _ _ ⟨updV v 16 (valJ ad n c i fv 16), rfl, hI.step 16 (by decide) hBW (Below.refl _ _)⟩)
                rw [show valJ ad n c i fv 16 = .agg (rqC (fv (nmJ 0)) (fv (nmJ 1)) (fv (nmJ 2)) (fv (nmJ 3))) from rfl]
                simp [execOp, Act.eval, d3, d7, d11, d15, go_sem, rqC]
            · have ho' : some _ = some oo := ho
              cases ho'
              exact wpOp_step rfl fun K' hK' => by
                rw [if_pos (by simp [Region.wanted])]
                refine wp_val (v := .pointer (some ⟨W.heap.size, 0, none⟩)) (w' := W.alloc (.cells (rqC ⟨#[]⟩ ⟨#[]⟩ ⟨#[]⟩ ⟨#[]⟩) 32)) ?_ (hK' _ _ ⟨updV v 17 (.pointer (some ⟨W.heap.size, 0, none⟩)), rfl, hI.made hoff hBW⟩)
                simp [execOp, Act.eval, go_sem, rqC]
            · have ho' : some _ = some oo := ho
              cases ho'
              have h17 : on ls 17 = true := hall ⟨17, .data⟩ (by simp) rfl
              have d16 := hI.vs 16 (by decide) (hall ⟨16, .data⟩ (by simp) rfl)
              rw [show valJ ad n c i fv 16 = .agg (rqC (fv (nmJ 0)) (fv (nmJ 1)) (fv (nmJ 2)) (fv (nmJ 3))) from rfl] at d16
              obtain ⟨Q, hQ, hBQ, hcQ⟩ := hI.q h17
              rw [hoff] at hcQ
              simp only [Bool.false_eq_true, if_false] at hcQ
              obtain ⟨c0, c1, c2, c3, c4, cz⟩ := cells_kept hcQ rfl
              simp only [rqC, List.getElem?_toArray, List.getElem?_cons_zero, List.getElem?_cons_succ] at c0 c1 c2 c3 c4
              exact wpOp_step rfl fun K' hK' => by
                rw [if_pos (by simp [Region.wanted])]
                refine wp_skip (w' := ((((W.setCell ⟨Q, 0, none⟩ (.string (fv (nmJ 0)))).setCell ⟨Q, 1, none⟩ (.string (fv (nmJ 1)))).setCell ⟨Q, 2, none⟩ (.string (fv (nmJ 2)))).setCell ⟨Q, 3, none⟩ (.string (fv (nmJ 3)))).setCell ⟨Q, 4, none⟩ (.slice none 0 0)) ?_ (hK' _ _ ⟨v, rfl, hI.stored hoff h17 hQ hBQ (((((hI.bl.setCell hBQ _).setCell hBQ _).setCell hBQ _).setCell hBQ _).setCell hBQ _) (set_heap (set_heap (set_heap (set_heap (set_heap hcQ _) _) _) _) _)⟩)
                simp [execOp, Act.eval, hQ, d16, go_sem, rqC, c0, c1, c2, c3, c4, cz]
      case rest =>
      obtain ⟨Q, rfl, hQ, hcQ, hbx⟩ := hcut
      obtain ⟨w9, rfl⟩ : ∃ w9 : World, w9 = wc := ⟨_, rfl⟩
      have hv0 : fv (nmJ 0) = firstM (L.take i) mL := HFV.out _
      have hv1 : fv (nmJ 1) = firstM (L.take i) sL := HFV.out _
      have hv2 : fv (nmJ 2) = firstM (L.take i) aL := HFV.out _
      have hv3 : fv (nmJ 3) = firstM (L.take i) pL := HFV.out _
      have HRF : Hid (reqF (L.take i) = ⟨fv (nmJ 0), fv (nmJ 1), fv (nmJ 2), fv (nmJ 3)⟩) := Lib.hid (by unfold reqF; rw [hv0, hv1, hv2, hv3])
      have HDF : Hid (dfine (L.take i) (L.drop i) = (fullB (fv (nmJ 0)) && (fullB (fv (nmJ 1)) && (fullB (fv (nmJ 3)) && pathB (fv (nmJ 3)) && trailB (L.drop i))))) := Lib.hid (by unfold dfine; rw [HOK.out, hv0, hv1, hv3]; rfl)
      generalize fv (nmJ 0) = vm at HRF HDF hcQ
      generalize fv (nmJ 1) = vs at HRF HDF hcQ
      generalize fv (nmJ 2) = va at HRF HDF hcQ
      generalize fv (nmJ 3) = vp at HRF HDF hcQ
      obtain ⟨c0, c1, c2, c3, c4, cz⟩ := cells_kept hcQ rfl
      simp only [rqC, List.getElem?_toArray, List.getElem?_cons_zero, List.getElem?_cons_succ] at c0 c1 c2 c3 c4
      have HB9 := Lib.hid (HBR.out.trans (hbx.mono hzr))
      have HCQ := Lib.hid hcQ
      have hzx := hbx.size
      have hQlt : Q < w9.heap.size := (Array.getElem?_eq_some_iff.1 hcQ).1
      clear hv0 hv1 hv2 hv3 HFC HFV hcQ hbx hslA HOK
      have HPB : Hid ((fullB vp && pathB vp) = (decide (0 < vp.size) && ((vp.toList == [42]) || pre1 47 vp))) := Lib.hid (by rw [full_size]; rfl)
      go_upto_region 10 with fail
      go_cut [9] from 74 to 88 (fun s9 wx => s9 = .bool (fullB vp && pathB vp) ∧ w9 = wx)
      case first =>
        as_aux_lemma =>
          clear HRF HDF HS HL HM HD HFL HP0 HW0 HSR HB9 HCQ HBR HB0
          by_cases h0 : 0 < vp.size
          · have hd : decide ((0 : Int) < (vp.size : Int)) = true := decide_eq_true (by omega)
            have hp : (0 : Int) < (vp.size : Int) := by omega
            have h47 : pre1 47 vp = ((vp[0].toNat : Int) == 47) := by
              rw [pre_at' 47 vp h0, Bool.eq_iff_iff]
              simp only [decide_eq_true_eq, beq_iff_eq]
              constructor
              · intro e; rw [e]; rfl
              · intro e; exact UInt8.toNat_inj.1 (by simpa using (by omega : vp[0].toNat = 47))
            rw [h47, decide_eq_true h0] at HPB
            cases hb : ((vp[0].toNat : Int) == 47) with
            | true =>
              go_wp2_with fail
              go_meet
              exact ⟨congrArg Value.bool (by rw [HPB.out, hb]; simp), rfl⟩
            | false =>
              go_wp2_with fail
              go_meet
              exact ⟨congrArg Value.bool (by rw [HPB.out, hb]; simp), rfl⟩
          · obtain rfl : vp = ⟨#[]⟩ := by
              obtain ⟨⟨l⟩⟩ := vp
              cases l with
              | nil => rfl
              | cons c l => exact absurd (by simp [ByteArray.size]) h0
            go_wp2_with fail
            go_meet
            exact ⟨congrArg Value.bool (by rw [HPB.out, decide_eq_false h0]; rfl), rfl⟩
      case rest =>
      obtain ⟨rfl, rfl⟩ := hcut
      clear HPB
      have bad : dfine (L.take i) (L.drop i) = false → Hid (dopen L = none) := fun h => Lib.hid (by rw [HD.out, h]; rfl)
      have HBAD := Lib.hid bad
      clear bad
      generalize hpb : (fullB vp && pathB vp) = pb at HDF
      cases hm0 : vm.toList.isEmpty with
      | true =>
        have HNO := HBAD.out (by rw [HDF.out, fullB, hm0]; rfl)
        obtain ⟨r0, r1, r2, r3, r4, rz⟩ := cells_kept (HP0.out) (HB9.out.block w.heap.size (by omega))
        have rz0 := rz 0
        have rz1 := rz 1
        have rz2 := rz 2
        have rz3 := rz 3
        have rz4 := rz 4
        obtain ⟨W5, hW5, k0, k1, k2, k3, k4, hb5, _, _⟩ := five_set (.string ⟨#[]⟩) (.string ⟨#[]⟩) (.string ⟨#[]⟩) (.string ⟨#[]⟩) (.slice none 0 0) r0 r1 r2 r3 r4 (HB0.out.trans (HB9.out.mono (by omega))) (Nat.le_refl w.heap.size)
        have HF5 := Lib.hid (⟨k0, k1, k2, k3, k4, hb5⟩ : _ ∧ _ ∧ _ ∧ _ ∧ _ ∧ _)
        have HW5 := Lib.hid hW5
        clear k0 k1 k2 k3 k4 hb5 hW5 rz
        go_wp2_with fail
        rw [← HW5.out]
        obtain ⟨k0, k1, k2, k3, k4, hb5⟩ := HF5.out
        exact ret_two rfl rfl rfl k0 k1 k2 k3 k4 ⟨hb5, by rw [HNO.out]; rfl⟩
      | false =>
      cases hs0 : vs.toList.isEmpty with
      | true =>
        have HNO := HBAD.out (by rw [HDF.out, fullB, fullB, hs0]; simp)
        obtain ⟨r0, r1, r2, r3, r4, rz⟩ := cells_kept (HP0.out) (HB9.out.block w.heap.size (by omega))
        have rz0 := rz 0
        have rz1 := rz 1
        have rz2 := rz 2
        have rz3 := rz 3
        have rz4 := rz 4
        obtain ⟨W5, hW5, k0, k1, k2, k3, k4, hb5, _, _⟩ := five_set (.string ⟨#[]⟩) (.string ⟨#[]⟩) (.string ⟨#[]⟩) (.string ⟨#[]⟩) (.slice none 0 0) r0 r1 r2 r3 r4 (HB0.out.trans (HB9.out.mono (by omega))) (Nat.le_refl w.heap.size)
        have HF5 := Lib.hid (⟨k0, k1, k2, k3, k4, hb5⟩ : _ ∧ _ ∧ _ ∧ _ ∧ _ ∧ _)
        have HW5 := Lib.hid hW5
        clear k0 k1 k2 k3 k4 hb5 hW5 rz
        go_wp2_with fail
        rw [← HW5.out]
        obtain ⟨k0, k1, k2, k3, k4, hb5⟩ := HF5.out
        exact ret_two rfl rfl rfl k0 k1 k2 k3 k4 ⟨hb5, by rw [HNO.out]; rfl⟩
      | false =>
      cases pb with
      | false =>
        have HNO := HBAD.out (by rw [HDF.out]; simp)
        obtain ⟨r0, r1, r2, r3, r4, rz⟩ := cells_kept (HP0.out) (HB9.out.block w.heap.size (by omega))
        have rz0 := rz 0
        have rz1 := rz 1
        have rz2 := rz 2
        have rz3 := rz 3
        have rz4 := rz 4
        obtain ⟨W5, hW5, k0, k1, k2, k3, k4, hb5, _, _⟩ := five_set (.string ⟨#[]⟩) (.string ⟨#[]⟩) (.string ⟨#[]⟩) (.string ⟨#[]⟩) (.slice none 0 0) r0 r1 r2 r3 r4 (HB0.out.trans (HB9.out.mono (by omega))) (Nat.le_refl w.heap.size)
        have HF5 := Lib.hid (⟨k0, k1, k2, k3, k4, hb5⟩ : _ ∧ _ ∧ _ ∧ _ ∧ _ ∧ _)
        have HW5 := Lib.hid hW5
        clear k0 k1 k2 k3 k4 hb5 hW5 rz
        go_wp2_with fail
        rw [← HW5.out]
        obtain ⟨k0, k1, k2, k3, k4, hb5⟩ := HF5.out
        exact ret_two rfl rfl rfl k0 k1 k2 k3 k4 ⟨hb5, by rw [HNO.out]; rfl⟩
      | true =>
      have hsl2 := fun W => slice_n ad n c i (by omega) W
      have HSP := Lib.hid (ns_part (HS.out.kept (HB0.out.trans (HB9.out.mono (by omega)))) i (by omega))
      have HTR := Lib.hid (dtrail_any (partN ad c i) (n - i) (c - i) (L.drop i) w9 HSP.out (sm_drop HM.out i))
      have HDT : Hid (dfine (L.take i) (L.drop i) = trailB (L.drop i)) := Lib.hid (by rw [HDF.out, fullB, fullB, hm0, hs0]; simp)
      go_wp2_with fail
      refine HTR.out.mono ?_
      rintro e w10 ⟨rfl, hb10⟩
      have HB10 := Lib.hid (HB9.out.trans (hb10.mono HB9.out.size))
      clear HTR
      cases ht : trailB (L.drop i) with
      | false =>
        have HNO := HBAD.out (by rw [HDT.out, ht])
        simp only [hdC, Bool.false_eq_true, if_false]
        obtain ⟨r0, r1, r2, r3, r4, rz⟩ := cells_kept (HP0.out) (HB10.out.block w.heap.size (by omega))
        have rz0 := rz 0
        have rz1 := rz 1
        have rz2 := rz 2
        have rz3 := rz 3
        have rz4 := rz 4
        obtain ⟨W5, hW5, k0, k1, k2, k3, k4, hb5, _, _⟩ := five_set (.string ⟨#[]⟩) (.string ⟨#[]⟩) (.string ⟨#[]⟩) (.string ⟨#[]⟩) (.slice none 0 0) r0 r1 r2 r3 r4 (HB0.out.trans (HB10.out.mono (by omega))) (Nat.le_refl w.heap.size)
        have HF5 := Lib.hid (⟨k0, k1, k2, k3, k4, hb5⟩ : _ ∧ _ ∧ _ ∧ _ ∧ _ ∧ _)
        have HW5 := Lib.hid hW5
        clear k0 k1 k2 k3 k4 hb5 hW5 rz
        go_wp2_with fail
        rw [← HW5.out]
        obtain ⟨k0, k1, k2, k3, k4, hb5⟩ := HF5.out
        exact ret_two rfl rfl rfl k0 k1 k2 k3 k4 ⟨hb5, by rw [HNO.out]; rfl⟩
      | true =>
        have HYES : Hid (dopen L = some (⟨vm, vs, va, vp⟩, L.drop i)) := Lib.hid (by rw [HD.out, HDT.out, ht, if_pos rfl, HRF.out])
        simp only [hdC, if_true]
        have HHD := Lib.hid (headers_any (partN ad c i) (n - i) (c - i) (L.drop i) w10 (HSP.out.kept hb10) (by omega))
        have hq10 := (hb10.block Q hQlt).trans HCQ.out
        have hz10 := hb10.size
        clear hb10 c0 c1 c2 c3 c4 cz HDT HBAD HDF HRF
        go_wp2_with fail
        refine HHD.out.mono ?_
        rintro e w11 ⟨ad, cc, rfl, ho11, hb11⟩
        have HB11 := Lib.hid (HB10.out.trans (hb11.mono HB10.out.size))
        obtain ⟨c0, c1, c2, c3, c4, cz⟩ := cells_kept ((hb11.block Q (by omega)).trans hq10) rfl
        simp only [rqC, List.getElem?_toArray, List.getElem?_cons_zero, List.getElem?_cons_succ] at c0 c1 c2 c3 c4
        have cz4 := cz 4
        clear HHD
        have hw10 := HB10.out.size
        have hs0' : w0.heap.size ≤ Q := by omega
        have d0 := (cell_setN w11 Q 4 0 (.slice ad (n - i) cc) (by decide)).trans c0
        have d1 := (cell_setN w11 Q 4 1 (.slice ad (n - i) cc) (by decide)).trans c1
        have d2 := (cell_setN w11 Q 4 2 (.slice ad (n - i) cc) (by decide)).trans c2
        have d3 := (cell_setN w11 Q 4 3 (.slice ad (n - i) cc) (by decide)).trans c3
        have d4 := cell_setS w11 Q 4 (.slice ad (n - i) cc) _ c4
        have hB12 : Below w0.heap.size w0 (w11.setCell ⟨Q, 4, none⟩ (.slice ad (n - i) cc)) := HB11.out.setCell hs0' _
        have ho12 : NOwn (w11.setCell ⟨Q, 4, none⟩ (.slice ad (n - i) cc)) w10.heap.size (.slice ad (n - i) cc) (L.drop i) := nown_at ho11 (fun g h1 h2 => Below.heap_setCell _ _ _ _ (show g ≠ Q by omega))
        clear hb11 ho11 c0 c1 c2 c3
        go_upto_region 14 with fail
        generalize w11.setCell ⟨Q, 4, none⟩ (.slice ad (n - i) cc) = w12 at d0 d1 d2 d3 d4 hB12 ho12 ⊢
        clear c4 cz cz4 hq10
        obtain ⟨r0, r1, r2, r3, r4, rz⟩ := cells_kept (HP0.out) (hB12.block w.heap.size (by omega))
        have rz0 := rz 0
        have rz1 := rz 1
        have rz2 := rz 2
        have rz3 := rz 3
        have rz4 := rz 4
        obtain ⟨W5, hW5, k0, k1, k2, k3, k4, hb5, hbk5, _⟩ := five_set (.string vm) (.string vs) (.string va) (.string vp) (.slice ad (n - i) cc) r0 r1 r2 r3 r4 (HB0.out.trans (hB12.mono (by omega))) (Nat.le_refl w.heap.size)
        have ho5 : NOwn W5 w10.heap.size (.slice ad (n - i) cc) (L.drop i) := nown_at ho12 (fun g h1 h2 => hbk5 g (by omega))
        have HF5 := Lib.hid (⟨k0, k1, k2, k3, k4, hb5, ho5⟩ : _ ∧ _ ∧ _ ∧ _ ∧ _ ∧ _ ∧ _)
        have HW5 := Lib.hid hW5
        clear k0 k1 k2 k3 k4 hb5 hW5 rz ho5 ho12 hbk5
        go_wp2_with fail
        rw [← HW5.out]
        obtain ⟨k0, k1, k2, k3, k4, hb5, ho5⟩ := HF5.out
        exact ret_two rfl rfl rfl k0 k1 k2 k3 k4 ⟨hb5, by rw [HYES.out]; exact ⟨_, _, _, rfl, ho5.mono (by omega)⟩⟩
end Go.Proofs.YtgoglfahlfkbiaaDoor
