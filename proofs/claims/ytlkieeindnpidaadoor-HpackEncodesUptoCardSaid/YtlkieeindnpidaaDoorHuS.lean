/-
  CONTRACTS: Decode.
-/
import Derived.Test.YtlkieeindnpidaaDoorHuR
namespace Go.Proofs.YtlkieeindnpidaaDoor.Hu
open Go.RowKit Hf

theorem wp_mono {P : Program} {a : Act} {w : World} {Q Q' : Exit → Act → World → Prop} {c : Code} (h : c.wp P Q a w) (hq : ∀ e a w, Q e a w → Q' e a w) : c.wp P Q' a w := by
  intro b k cs
  obtain ⟨e, a2, w2, h1, h2⟩ := h b k cs
  exact ⟨e, a2, w2, hq _ _ _ h1, h2⟩
/-- Two labels, the code behind the first running into the second's: the second's is walked once. -/
theorem scope_core {P : Program} {a : Act} {w : World} {Q : Exit → Act → World → Prop} {c r0 r1 : Code} (l0 l1 : Nat) (J0 J1 : Act → World → Prop) (m : Act → World → Nat)
    (h0 : findLabel c l0 = some (Code.skip.seq r0)) (h1 : findLabel c l1 = some (Code.skip.seq r1))
    (core : ∀ n a w, J1 a w → m a w ≤ n → r1.wp P (two l0 l1 (fun a' w' => J0 a' w' ∧ m a' w' < n) (fun a' w' => J1 a' w' ∧ m a' w' < n) Q) a w)
    (pass0 : (∀ n a w, J1 a w → m a w ≤ n → r1.wp P (two l0 l1 (fun a' w' => J0 a' w' ∧ m a' w' < n) (fun a' w' => J1 a' w' ∧ m a' w' < n) Q) a w) →
      ∀ n a w, J0 a w → m a w ≤ n → r0.wp P (two l0 l1 (fun a' w' => J0 a' w' ∧ m a' w' < n) (fun a' w' => J1 a' w' ∧ m a' w' < n) Q) a w)
    (first : (∀ a w, J1 a w → r1.wp P (two l0 l1 J0 J1 Q) a w) → c.wp P (two l0 l1 J0 J1 Q) a w) : (Code.scope c).wp P Q a w := by
  refine scope_two l0 l1 J0 J1 m h0 h1 (first fun a w hJ => wp_mono (core _ a w hJ (Nat.le_refl _)) ?_) (fun a w hJ => wp_seq (wp_skip (pass0 core _ a w hJ (Nat.le_refl _)))) (fun a w hJ => wp_seq (wp_skip (core _ a w hJ (Nat.le_refl _))))
  intro e a w hq
  cases e with
  | goto l => exact hq.elim (fun h => Or.inl ⟨h.1, h.2.1⟩) (fun h => Or.inr ⟨h.1, h.2.1⟩)
  | normal => exact hq
  | exit id => exact hq
  | ret => exact hq
  | panic ch => exact hq
  | outgrown => exact hq

def cellN (w : World) (p o : Nat) : Nat := match w.cell? ⟨p, o, none⟩ with
  | some (.int _ q) => q.toNat
  | _ => 0
def blockOf (v : Value) : Nat := match v with
  | .pointer (some q) => q.block
  | _ => 0
/-- How many bits are left. -/
def left (L : Nat) (a : Act) (w : World) : Nat := 8 * L - (8 * cellN w (blockOf (a.tmps.getD 5 undef)) 1 + cellN w (blockOf (a.tmps.getD 5 undef)) 2)
theorem Rd.kept {w w' : World} {p : Nat} {a : Option Addr} {n c i t : Nat} (h : Rd w p a n c i t) (hb : Below (p + 1) w w') : Rd w' p a n c i t :=
  ⟨(hb.cell (p := ⟨p, 0, none⟩) (Nat.lt_succ_self p)).trans h.b, (hb.cell (p := ⟨p, 1, none⟩) (Nat.lt_succ_self p)).trans h.i, (hb.cell (p := ⟨p, 2, none⟩) (Nat.lt_succ_self p)).trans h.t, fun j => (hb.frozen (p := ⟨p, j, none⟩) (Nat.lt_succ_self p)).trans (h.z j)⟩
theorem left_of {w : World} {p : Nat} {a : Option Addr} {n c i t : Nat} (h : Rd w p a n c i t) {L : Nat} (act : Act) (h5 : act.tmps.getD 5 undef = .pointer (some ⟨p, 0, none⟩)) : left L act w = 8 * L - (8 * i + t) := by
  unfold left
  rw [h5]
  simp [blockOf, cellN, h.i, h.t]
/-- What holds between two bits: cd, k wait (the number of bits of the code that has begun). -/
structure Mid (l : List UInt8) (w wr : World) (a : Option Addr) (n c b p : Nat) (v : Value) (cd k i t : Nat) (out : List UInt8) : Prop where
  rd : Rd wr p a n c i t
  bk : Bk wr b code ord fst num ahd
  bp : b < p
  wb : w.heap.size ≤ b
  own : Own wr (p + 1) v out
  ol : out.length ≤ 8 * i + t
  sz : p < wr.heap.size
  below : Below w.heap.size w wr
  ti : t < 8
  il : i ≤ n ∧ (i = n → t = 0)
  wait : Wait cd k
  dec : saysText l = says l (8 * l.length - (8 * i + t)) (8 * i + t) cd k out
def J1 (l : List UInt8) (w : World) (a : Option Addr) (n c : Nat) (act : Act) (wr : World) : Prop := ∃ (b p N cc cd k i t : Nat) (ad : Option Addr) (out : List UInt8) (u1 u9 u10 u11 u12 u13 u14 u15 u16 u17 u18 u19 u20 u21 u22 u23 u24 u25 u26 u27 u28 u29 u30 u31 u32 u33 u34 u35 u36 u37 u38 u39 u40 u41 u42 u43 u44 u45 u46 u47 u48 u49 u50 u51 u52 u53 u54 u55 : Value),
  act = { tmps := #[.slice a n c, u1, .string ⟨#[]⟩, .nilIface, .pointer (some ⟨b, 0, none⟩), .pointer (some ⟨p, 0, none⟩), .slice ad N cc, .int .u32 (cd : Int), .int .i64 (k : Int), u9, u10, u11, u12, u13, u14, u15, u16, u17, u18, u19, u20, u21, u22, u23, u24, u25, u26, u27, u28, u29, u30, u31, u32, u33, u34, u35, u36, u37, u38, u39, u40, u41, u42, u43, u44, u45, u46, u47, u48, u49, u50, u51, u52, u53, u54, u55], defers := [] } ∧ Mid l w wr a n c b p (.slice ad N cc) cd k i t out
def J0 (l : List UInt8) (w : World) (a : Option Addr) (n c : Nat) (act : Act) (wr : World) : Prop := ∃ (b p N cc i t : Nat) (ad : Option Addr) (out : List UInt8) (u1 s7 s8 u9 u10 u11 u12 u13 u14 u15 u16 u17 u18 u19 u20 u21 u22 u23 u24 u25 u26 u27 u28 u29 u30 u31 u32 u33 u34 u35 u36 u37 u38 u39 u40 u41 u42 u43 u44 u45 u46 u47 u48 u49 u50 u51 u52 u53 u54 u55 : Value),
  act = { tmps := #[.slice a n c, u1, .string ⟨#[]⟩, .nilIface, .pointer (some ⟨b, 0, none⟩), .pointer (some ⟨p, 0, none⟩), .slice ad N cc, s7, s8, u9, u10, u11, u12, u13, u14, u15, u16, u17, u18, u19, u20, u21, u22, u23, u24, u25, u26, u27, u28, u29, u30, u31, u32, u33, u34, u35, u36, u37, u38, u39, u40, u41, u42, u43, u44, u45, u46, u47, u48, u49, u50, u51, u52, u53, u54, u55], defers := [] } ∧ Mid l w wr a n c b p (.slice ad N cc) 0 0 i t out
theorem own_sl2 {w : World} {B : Nat} {a : Option Addr} {N c : Nat} {l : List UInt8} (h : Own w B (.slice a N c) l) : Sl w a N c l := by
  obtain ⟨a', c', e, hs⟩ := h.sl
  cases e
  exact hs
/-- What Decode answers. -/
def DecPost (ev : Value) (l : List UInt8) (w : World) (e : Ending) (w' : World) : Prop := Below w.heap.size w w' ∧ match saysText l with
  | some out => e = .returned (.tuple #[.string ⟨out.toArray⟩, .nilIface])
  | none => e = .returned (.tuple #[.string ⟨#[]⟩, ev])

set_option maxRecDepth 100000 in
set_option maxHeartbeats 4000000 in
theorem decode_any (ev : Value) (a : Option Addr) (n c : Nat) (l : List UInt8) (w : World) (hs : Sl w a n c l) (hn : n ≤ 1000000) (hE : w.cell? ⟨4, 0, none⟩ = some ev) :
    Calls Tryd.prog 49 #[.slice a n c] w (DecPost ev l w) := by
  have hlen := hs.len
  go_enter Tryd.func49, Tryd.ntmps49
  go_wp2
  refine scope_core 0 1 (J0 l w a n c) (J1 l w a n c) (left n) rfl rfl ?core ?pass0 ?first
  case core =>
    rintro m act wr ⟨b, p, N, cc, cd, k, i, t, ad, out, u1, u9, u10, u11, u12, u13, u14, u15, u16, u17, u18, u19, u20, u21, u22, u23, u24, u25, u26, u27, u28, u29, u30, u31, u32, u33, u34, u35, u36, u37, u38, u39, u40, u41, u42, u43, u44, u45, u46, u47, u48, u49, u50, u51, u52, u53, u54, u55, rfl, hM⟩ hle
    obtain ⟨hrd, hbk, hbp, hwb, hown, hol, hsz, hbl, ht, ⟨hil, hit⟩, hwait, hdec⟩ := hM
    have hk29 := hwait.1
    have hE2 := (hbl.cell (p := ⟨4, 0, none⟩) (cell_lt hE)).trans hE
    by_cases hin : i = n
    · subst hin
      obtain rfl := hit rfl
      rw [hlen, show 8 * i - (8 * i + 0) = 0 by omega, says] at hdec
      by_cases h8 : 8 ≤ k
      · rw [if_pos (Or.inl h8)] at hdec
        have HD := Lib.hid hdec
        clear hdec hwait hle
        go_wp2_with fail
        refine (next_no p a i c 0 _ hrd (by omega)).mono ?_
        rintro e w2 ⟨rfl, q, rfl⟩
        go_wp2_with fail
        go_quiet (fail)
        go_wp2
        go_ret2
        refine ⟨by repeat (first | exact hbl | (refine bdN ?_ _) | (refine Below.drew ?_)), by rw [HD.out]; rfl⟩
      · have ho := fun W => ones_any k (by omega) W
        have HO := Lib.hid ho
        have hp : 2 ^ k - 1 < 256 := by
          have := Nat.pow_le_pow_right (n := 2) (by decide) (show k ≤ 7 by omega)
          omega
        have hcd : cd < 4294967296 := by
          have h1 := hwait.2.2
          omega
        by_cases hc : cd = 2 ^ k - 1
        · rw [if_neg (by simp [h8, hc])] at hdec
          have HD := Lib.hid hdec
          have hconv := (own_sl2 hown).conv
          generalize 2 ^ k - 1 = x at hc HO hp
          subst hc
          clear hdec hwait hle ho
          go_wp2_with fail
          refine (next_no p a i c 0 _ hrd (by omega)).mono ?_
          rintro e w2 ⟨rfl, q, rfl⟩
          have hconv2 := (own_sl2 (hown.drewN q)).conv
          go_wp2_with fail
          refine (HO.out _).mono ?_
          rintro e w3 ⟨rfl, rfl⟩
          go_wp2_with fail
          go_ret2
          refine ⟨by repeat (first | exact hbl | (refine bdN ?_ _) | (refine Below.drew ?_)), by rw [HD.out]; rfl⟩
        · rw [if_pos (Or.inr hc)] at hdec
          have HD := Lib.hid hdec
          generalize 2 ^ k - 1 = x at hc HO hp
          have hcx : ((cd : Int) != (x : Int)) = true := by rw [bne_iff_ne]; omega
          clear hdec hwait hle ho
          go_wp2_with fail
          refine (next_no p a i c 0 _ hrd (by omega)).mono ?_
          rintro e w2 ⟨rfl, q, rfl⟩
          go_wp2_with fail
          refine (HO.out _).mono ?_
          rintro e w3 ⟨rfl, rfl⟩
          go_wp2_with fail
          go_quiet (fail)
          go_wp2
          go_ret2
          refine ⟨by repeat (first | exact hbl | (refine bdN ?_ _) | (refine Below.drew ?_)), by rw [HD.out]; rfl⟩
    · have hbit : (l.getD i 0).toNat / 2 ^ (7 - t) % 2 = bit l (8 * i + t) := by unfold bit; rw [show (8 * i + t) / 8 = i by omega, show (8 * i + t) % 8 = t by omega]
      have hnx := next_yes p a n c i t l wr hrd (by omega) (by omega) ht (hs.kept hbl)
      have hstep := wait_step hwait l (8 * i + t)
      have hlt := bit_lt l (8 * i + t)
      obtain ⟨r, hr⟩ : ∃ r, 8 * l.length - (8 * i + t) = r + 1 := ⟨8 * l.length - (8 * i + t) - 1, by omega⟩
      rw [hr, says] at hdec
      unfold NextYes at hnx
      rw [hbit] at hnx
      generalize bit l (8 * i + t) = bt at hnx hstep hlt hdec
      obtain ⟨hk1, hcl, hwn⟩ := hstep
      have hc30 : 2 * cd + bt < 1073741824 := by
        have := Nat.pow_le_pow_right (n := 2) (by decide) (show k + 1 ≤ 30 by omega)
        have e30 : (2 : Nat) ^ 30 = 1073741824 := by decide
        omega
      have hor : bits .or .u32 ((cd : Int) * 2) (bt : Int) = ((2 * cd + bt : Nat) : Int) := by
        rw [show (cd : Int) * 2 = ((cd * 2 : Nat) : Int) by simp, u32_or_nat _ _ (by omega) (by omega), nat_join1 _ _ (by omega) hlt, Nat.mul_comm]
      have HB := Lib.hid hor
      have HW := Lib.hid hwn
      have HNX := Lib.hid hnx
      have HLE : Hid (8 * n - (8 * i + t) ≤ m) := Lib.hid (by have h := hle; rw [left_of hrd _ (by rfl)] at h; exact h)
      have hcd : cd < 1073741824 := by omega
      have HS := Lib.hid hs
      clear hor hwn hnx hbit hwait hle hcl hs
      cases hsym : sym (2 * cd + bt) (k + 1) with
      | none =>
        rw [hsym] at hdec
        have HD := Lib.hid hdec
        have HSY := Lib.hid hsym
        clear hdec hsym
        go_wp2_with fail
        refine HNX.out.mono ?_
        rintro e w2 ⟨rfl, hrd2, hkp⟩
        have hbk2 := hbk.kept (hkp.below.mono hbp)
        have hown2 := hkp.own _ _ _ (Nat.lt_succ_self p) hown
        have hbl2 := hbl.trans (hkp.below.mono (by omega))
        have hsz2 : p < w2.heap.size := by rw [← hkp.size]; exact hsz
        have HKK : Hid ((k : Int) + 1 = ((k + 1 : Nat) : Int)) := Lib.hid (by simp)
        clear hrd hbk hown hkp hE2
        go_wp2_with fail
        rw [HB.out, HKK.out]
        refine (symbol_no b (2 * cd + bt) (k + 1) hk1 (by omega) _ hbk2 HSY.out).mono ?_
        rintro e w3 ⟨rfl, rfl⟩
        have hit' : 8 * (if t = 7 then i + 1 else i) + (if t = 7 then 0 else t + 1) = 8 * i + t + 1 ∧ (if t = 7 then 0 else t + 1) < 8 ∧ (if t = 7 then i + 1 else i) ≤ n ∧ ((if t = 7 then i + 1 else i) = n → (if t = 7 then 0 else t + 1) = 0) := by split <;> omega
        generalize (if t = 7 then i + 1 else i) = i' at hrd2 hit'
        generalize (if t = 7 then 0 else t + 1) = t' at hrd2 hit'
        have HI := Lib.hid hit'; clear hit'
        go_wp2_with fail
        go_step3
        have hi' := HI.out
        refine Or.inr ⟨rfl, ⟨b, p, N, cc, 2 * cd + bt, k + 1, i', t', ad, out, u1, _, _, _, _, _, _, _, _, _, _, _, _, _, _, _, _, _, _, _, _, _, _, _, _, _, _, _, _, _, _, _, _, _, _, _, _, _, _, _, _, _, _, _, _, _, _, _, rfl, ⟨hrd2, hbk2, hbp, hwb, hown2, by omega, hsz2, hbl2, hi'.2.1, hi'.2.2, HW.out HSY.out, ?_⟩⟩, ?_⟩
        · rw [HD.out, hi'.1]
          congr 1
          omega
        · rw [left_of hrd2 _ (by rfl)]
          have := HLE.out
          omega
      | some s =>
        rw [hsym] at hdec
        simp only at hdec
        have HSY := Lib.hid hsym
        have hs257 : s < 257 := by
          obtain ⟨e1, e2, e3⟩ := sym_some hk1 hsym
          have := ahd_le (k + 1) hk1
          rw [e3]
          exact (ord_back _ (by omega)).1
        by_cases h256 : s = 256
        · rw [if_pos h256] at hdec
          subst h256
          have HD := Lib.hid hdec
          clear hdec hsym
          have hEh := hE
          go_wp2_with fail
          refine HNX.out.mono ?_
          rintro e w2 ⟨rfl, hrd2, hkp⟩
          have hbk2 := hbk.kept (hkp.below.mono hbp)
          have hown2 := hkp.own _ _ _ (Nat.lt_succ_self p) hown
          have hbl2 := hbl.trans (hkp.below.mono (by omega))
          have hsz2 : p < w2.heap.size := by rw [← hkp.size]; exact hsz
          have HKK : Hid ((k : Int) + 1 = ((k + 1 : Nat) : Int)) := Lib.hid (by simp)
          clear hrd hbk hown hkp
          have hE3 := (hbl2.cell (p := ⟨4, 0, none⟩) (cell_lt hE)).trans hE
          go_wp2_with fail
          rw [HB.out, HKK.out]
          refine (symbol_yes b (2 * cd + bt) (k + 1) 256 hk1 (by omega) _ hbk2 HSY.out).mono ?_
          rintro e w3 ⟨rfl, q, rfl⟩
          go_wp2_with fail
          go_quiet (fail)
          go_wp2
          go_ret2
          refine ⟨by repeat (first | exact hbl2 | (refine bdN ?_ _) | (refine Below.drew ?_)), by rw [HD.out]; rfl⟩
        · rw [if_neg h256] at hdec
          have HD := Lib.hid hdec
          clear hdec hsym
          go_wp2_with fail
          refine HNX.out.mono ?_
          rintro e w2 ⟨rfl, hrd2, hkp⟩
          have hbk2 := hbk.kept (hkp.below.mono hbp)
          have hown2 := hkp.own _ _ _ (Nat.lt_succ_self p) hown
          have hbl2 := hbl.trans (hkp.below.mono (by omega))
          have hsz2 : p < w2.heap.size := by rw [← hkp.size]; exact hsz
          have HKK : Hid ((k : Int) + 1 = ((k + 1 : Nat) : Int)) := Lib.hid (by simp)
          clear hrd hbk hown hkp hE2
          go_wp2_with fail
          rw [HB.out, HKK.out]
          refine (symbol_yes b (2 * cd + bt) (k + 1) s hk1 (by omega) _ hbk2 HSY.out).mono ?_
          rintro e w3 ⟨rfl, q, rfl⟩
          have hs256 : s < 256 := by omega
          have HBY : Hid ((s : Int) = (((UInt8.ofNat s).toNat : Nat) : Int)) := Lib.hid (by rw [ofNat_toNat']; omega)
          have hsne : ((s : Int) == 256) = false := by rw [beq_eq_false_iff_ne]; omega
          have hown3 := hown2.drewN q
          have hzz : p + 1 ≤ w2.heap.size := hsz2
          have hol2 : out.length + 1 ≤ 140737488355328 := by omega
          go_wp2_with (at_builtin; (refine wp_append_bytes rfl _ _ rfl _ out [UInt8.ofNat s] rfl (p + 1) (hown3.alloc _) (some ⟨(w2.drewN q).heap.size, 0, none⟩) 1 1 rfl (sl_new1 _ _ _ HBY.out) hol2 (by simp; omega) ?_); intro w4 ad4 N4 c4 hN4 hown4 hb4)
          have hq4 : Below (p + 1) w2 w4 := ((bdN (Below.refl _ w2) q).alloc (by simpa using hzz) _).trans hb4
          have hit' : 8 * (if t = 7 then i + 1 else i) + (if t = 7 then 0 else t + 1) = 8 * i + t + 1 ∧ (if t = 7 then 0 else t + 1) < 8 ∧ (if t = 7 then i + 1 else i) ≤ n ∧ ((if t = 7 then i + 1 else i) = n → (if t = 7 then 0 else t + 1) = 0) := by split <;> omega
          have hrd4 := hrd2.kept hq4
          generalize (if t = 7 then i + 1 else i) = i' at hrd4 hit'
          generalize (if t = 7 then 0 else t + 1) = t' at hrd4 hit'
          have hz4 := hq4.size
          go_step3
          refine Or.inl ⟨rfl, ⟨b, p, N4, c4, i', t', ad4, out ++ [UInt8.ofNat s], u1, _, _, _, _, _, _, _, _, _, _, _, _, _, _, _, _, _, _, _, _, _, _, _, _, _, _, _, _, _, _, _, _, _, _, _, _, _, _, _, _, _, _, _, _, _, _, _, _, _, rfl, ⟨hrd4, hbk2.kept (hq4.mono (by omega)), hbp, hwb, hown4, by simp; omega, by omega, hbl2.trans (hq4.mono (by omega)), hit'.2.1, hit'.2.2, wait_zero, ?_⟩⟩, ?_⟩
          · rw [HD.out, hit'.1]
            congr 1
            omega
          · rw [left_of hrd4 _ (by rfl)]
            have := HLE.out
            omega
  case pass0 =>
    rintro core m act wr ⟨b, p, N, cc, i, t, ad, out, u1, s7, s8, u9, u10, u11, u12, u13, u14, u15, u16, u17, u18, u19, u20, u21, u22, u23, u24, u25, u26, u27, u28, u29, u30, u31, u32, u33, u34, u35, u36, u37, u38, u39, u40, u41, u42, u43, u44, u45, u46, u47, u48, u49, u50, u51, u52, u53, u54, u55, rfl, hM⟩ hle
    go_wp2
    go_step3
    rename_i hK
    refine hK _ _ (core m _ _ ?_ hle)
    exact ⟨b, p, N, cc, 0, 0, i, t, ad, out, u1, u9, u10, u11, u12, u13, u14, u15, u16, u17, u18, u19, u20, u21, u22, u23, u24, u25, u26, u27, u28, u29, u30, u31, u32, u33, u34, u35, u36, u37, u38, u39, u40, u41, u42, u43, u44, u45, u46, u47, u48, u49, u50, u51, u52, u53, u54, u55, rfl, hM⟩
  case first =>
    intro core
    go_wp2_with fail
    refine (newBook_any _).mono ?_
    rintro e w1 ⟨rfl, hb1⟩
    have hst := store_book w1
    have hbk0 := bk_kept w1
    have hbl := hb1.trans ((below_book w1).mono hb1.size)
    generalize (w1.alloc (.cells Tryd.zeroCells125 125)).setCells w1.heap.size 0 bookL = W2 at hst hbk0 hbl
    generalize hbb : w1.heap.size = b at hst hbk0
    have hbw : w.heap.size ≤ b := by rw [← hbb]; exact hb1.size
    have hlt2 := hbk0.lt
    clear hb1
    go_wp2_with fail
    clear hst
    have hrd : Rd (W2.alloc (.cells #[.slice a n c, .int .i64 0, .int .i64 0] 128)) W2.heap.size a n c 0 0 := ⟨by simp, by simp, by simp, fun j => by simp⟩
    have hM : Mid l w (W2.alloc (.cells #[.slice a n c, .int .i64 0, .int .i64 0] 128)) a n c b W2.heap.size (.slice none 0 0) 0 0 0 0 [] :=
      ⟨hrd, hbk0.kept ((Below.refl _ _).alloc hlt2 _), hlt2, hbw, Own.nil _ _, by simp, by simp, hbl.alloc (by have := hbl.size; omega) _, by omega, ⟨by omega, fun _ => rfl⟩, wait_zero, rfl⟩
    go_step3
    rename_i hK0
    refine hK0 _ _ ?_
    go_wp2
    go_step3
    rename_i hK
    refine hK _ _ (core _ _ ?_)
    exact ⟨b, W2.heap.size, 0, 0, 0, 0, 0, 0, none, [], _, _, _, _, _, _, _, _, _, _, _, _, _, _, _, _, _, _, _, _, _, _, _, _, _, _, _, _, _, _, _, _, _, _, _, _, _, _, _, _, _, _, _, _, _, _, _, _, rfl, hM⟩
end Go.Proofs.YtlkieeindnpidaaDoor.Hu
