/-
  CONTRACTS: the document's symbol, Decode.
-/
import Derived.Test.YtdkmnblfmmmfkaaDoorCd
import Derived.Test.YtdkmnblfmmmfkaaDoorMb
import Derived.Test.YtdkmnblfmmmfkaaDoorR
import Derived.Test.YtdkmnblfmmmfkaaDoorS
namespace Go.Proofs.YtdkmnblfmmmfkaaDoor
open Go.RowKit Hf

/-- No symbol ahead has that code. -/
def NoneYet (c n i : Nat) : Prop := ∀ j, j < i → ¬ (code j = c ∧ sz j = n)
def SymsRel (c n : Nat) (w : World) (s9 : Value) (wr : World) : Prop := ∃ i : Nat, s9 = .int .i64 (i : Int) ∧ i ≤ 257 ∧ Hid (NoneYet c n i) ∧ w = wr
/-- A symbol's number, or -1. -/
def symI (o : Option Nat) : Int := match o with
  | some s => (s : Int)
  | none => -1
theorem sym_of {i c n : Nat} (hi : i < 257) (h1 : code i = c) (h2 : sz i = n) : sym c n = some i := by
  subst h1 h2
  exact sym_code i hi
theorem sym_no {c n : Nat} (hn : n < 31) (h : NoneYet c n 257) : sym c n = none := by
  cases hs : sym c n with
  | none => rfl
  | some s =>
    obtain ⟨h1, h2, h3⟩ := sym_bound hs hn
    exact absurd ⟨h2, h3⟩ (h s h1)
def SymrPost (c n : Nat) (w : World) (e : Ending) (w' : World) : Prop := e = .returned (.int .i64 (symI (sym c n))) ∧ w = w'
set_option maxRecDepth 100000 in
set_option maxHeartbeats 1000000 in
theorem symbolr_any (b c n : Nat) (hn : n < 31) (hc : c < 2147483648) (w : World) (h : Ck w b code) :
    Calls Tryd.prog 30 #[.slice (some ⟨b, 0, none⟩) 257 257, .string lets, .int .u32 (c : Int), .int .i64 (n : Int)] w (SymrPost c n w) := by
  have HK := Lib.hid h; clear h
  go_enter Tryd.func30, Tryd.ntmps30
  go_wp2_with fail
  go_loopw [9] (fun s9 wr => SymsRel c n w s9 wr) (fun s9 _ => 257 - (intOf s9).toNat)
  case atStart => exact ⟨0, rfl, by omega, Lib.hid (fun j hj => by omega), rfl⟩
  case round =>
    obtain ⟨i, rfl, hi, hno, rfl⟩ := hrel
    by_cases hlt : i < 257
    · have ha := lets_all i hlt
      have hsl : i < lets.size := by rw [lets_size]; exact hlt
      have hcell := HK.out.c i hlt
      have hcl := code_le hlt
      have hzl := sz_hi hlt
      have HY : Hid (code i = c → sz i = n → sym c n = some i) := Lib.hid (sym_of hlt)
      have HN : Hid (¬ (code i = c ∧ sz i = n) → NoneYet c n (i + 1)) := Lib.hid (fun h j hj => by
        by_cases e : j = i
        · subst e; exact h
        · exact hno.out j (by omega))
      clear hno
      generalize code i = d at hcell hcl HY HN
      generalize sz i = z at ha hzl HY HN
      by_cases e1 : d = c
      · subst e1
        by_cases e2 : z = n
        · subst e2
          have HS := Lib.hid (HY.out rfl rfl)
          clear HY HN
          go_wp2_with fail
          go_ret
          exact ⟨by rw [HS.out]; rfl, rfl⟩
        · have hb : ((z : Int) == (n : Int)) = false := by rw [beq_eq_false_iff_ne]; omega
          have HZ := Lib.hid (HN.out (fun h => e2 h.2))
          clear HY HN e2
          go_wp2_with fail
          exact ⟨⟨i + 1, by go_num, by omega, HZ, rfl⟩, by simp [intOf]; omega⟩
      · have hb : ((d : Int) == (c : Int)) = false := by rw [beq_eq_false_iff_ne]; omega
        have HZ := Lib.hid (HN.out (fun h => e1 h.1))
        clear HY HN e1
        go_wp2_with fail
        exact ⟨⟨i + 1, by go_num, by omega, HZ, rfl⟩, by simp [intOf]; omega⟩
    · obtain rfl : i = 257 := by omega
      have HZ := Lib.hid (sym_no hn hno.out)
      go_wp2_with fail
      go_ret
      exact ⟨by rw [HZ.out]; rfl, rfl⟩
end Go.Proofs.YtdkmnblfmmmfkaaDoor
