/-
  CONTRACTS: strings.IndexRune at a text of three ASCII bytes and a rune beyond them.
-/
import Derived.Test.YtgoglfahlfkbiaaDoorA
import Derived.Laws.RangeAny
import Derived.Scope
namespace Go.Proofs.YtgoglfahlfkbiaaDoor
open Go.RowKit Tt

def brkA : ByteArray := ⟨#[0, 10, 13]⟩
set_option maxHeartbeats 1000000 in
theorem valid_any (r : Int) (w : World) (h0 : 0 ≤ r) (h1 : r ≤ 2147483647) : Calls Tryd.prog 83 #[.int .i32 r] w fun e w' => e = .returned (.bool (decide (r < 55296 ∨ (57343 < r ∧ r ≤ 1114111)))) ∧ w = w' := by
  by_cases h2 : r < 55296
  · go_enter Tryd.func83, Tryd.ntmps83
    go_wp2
    go_ret
    exact ⟨by simp [h2], rfl⟩
  · by_cases h3 : 57343 < r
    · by_cases h4 : r ≤ 1114111
      · go_enter Tryd.func83, Tryd.ntmps83
        go_wp2
        go_ret
        exact ⟨by simp [h3, h4], rfl⟩
      · go_enter Tryd.func83, Tryd.ntmps83
        go_wp2
        go_ret
        exact ⟨by simp [h2, h4], rfl⟩
    · go_enter Tryd.func83, Tryd.ntmps83
      go_wp2
      go_ret
      exact ⟨by simp [h2, h3]; omega, rfl⟩
/-- The bytes of a rune beyond ASCII: two to four, the last one beyond ASCII too. -/
theorem encode_high (r : Int) (h : 128 ≤ r) : ∃ (R : ByteArray) (m : Nat) (x : UInt8), Utf8.encode r = R ∧ R.size = m + 1 ∧ 1 ≤ m ∧ m ≤ 3 ∧ 128 ≤ x.toNat ∧ (∀ h : m < R.size, R[m] = x) := by
  unfold Utf8.encode
  have key : ∀ n : Nat, (UInt8.ofNat (128 + n % 64)).toNat = 128 + n % 64 := fun n => by simp; omega
  have hc : 128 ≤ (if Utf8.valid r then r.toNat else Utf8.runeError) := by
    split
    · omega
    · decide
  generalize (if Utf8.valid r then r.toNat else Utf8.runeError) = c at hc
  simp only
  rw [if_neg (by omega)]
  split
  · exact ⟨_, 1, UInt8.ofNat (128 + c % 64), rfl, rfl, by omega, by omega, by rw [key]; omega, fun _ => rfl⟩
  · split
    · exact ⟨_, 2, UInt8.ofNat (128 + c % 64), rfl, rfl, by omega, by omega, by rw [key]; omega, fun _ => rfl⟩
    · exact ⟨_, 3, UInt8.ofNat (128 + c % 64), rfl, rfl, by omega, by omega, by rw [key]; omega, fun _ => rfl⟩
/-- A quiet call where some draws have gone ahead. -/
theorem quiet_more {P : Program} {f : FuncId} {args : Array Value} {w : World} {a n : Nat} {v : Value} (h : ∀ W, Calls P f args W fun e w' => e = .returned v ∧ w' = W) :
    Calls P f args (w.drewN (a + n)) fun e w'' => e = .returned v ∧ ∃ m, w'' = w.drewN (a + m) := (h _).mono fun _ _ k => ⟨k.1, n, k.2⟩
theorem no_high (l : List UInt8) (x : UInt8) (h : l.contains x = false) : Lib.indexByte l x < 0 := by
  have := Lib.contains_iff_indexByte l x
  rw [h] at this
  have := of_decide_eq_false this.symm
  omega
set_option maxRecDepth 100000 in
set_option maxHeartbeats 4000000 in
theorem idxRune_any (r : Int) (w : World) (h0 : 128 ≤ r) (h1 : r ≤ 2147483647) : Calls Tryd.prog 72 #[.string brkA, .int .i32 r] w fun e w' => e = .returned (.int .i64 (-1)) ∧ Below w.heap.size w w' := by
  have d0 : decide (r < 128) = false := decide_eq_false (by omega)
  have d1 : 0 ≤ r := by omega
  by_cases he : r = 65533
  · subst he
    unfold brkA
    go_enter Tryd.func72, Tryd.ntmps72
    go_wp2_with fail
    go_loopg [5, 6] 3 (fun g _ _ wx => ∃ i : Nat, i + g = 3 ∧ wx = w.iter brkA i)
    case atStart => exact ⟨0, by omega, rfl⟩
    case round =>
      obtain ⟨i, hig, rfl⟩ := hrel
      cases gk with
      | zero =>
        obtain rfl : i = 3 := by omega
        have hnx := fun ty => run_next_end (P := Tryd.prog) w brkA 3 ty (by decide)
        go_wp2_with fail
        go_ret
        exact ⟨rfl, (Below.refl _ _).alloc (Nat.le_refl _) _⟩
      | succ g =>
        have hi : i = 0 ∨ i = 1 ∨ i = 2 := by omega
        rcases hi with rfl | rfl | rfl
        · have hnx := fun ty => run_next_ascii (P := Tryd.prog) w brkA 0 ty (by decide) (by decide)
          rw [show (brkA[0]'(by decide)).toNat = 0 from rfl] at hnx
          go_wp2_with fail
          go_roundg g
          case measure => omega
          case rel => exact ⟨1, by omega, rfl⟩
        · have hnx := fun ty => run_next_ascii (P := Tryd.prog) w brkA 1 ty (by decide) (by decide)
          rw [show (brkA[1]'(by decide)).toNat = 10 from rfl] at hnx
          go_wp2_with fail
          go_roundg g
          case measure => omega
          case rel => exact ⟨2, by omega, rfl⟩
        · have hnx := fun ty => run_next_ascii (P := Tryd.prog) w brkA 2 ty (by decide) (by decide)
          rw [show (brkA[2]'(by decide)).toNat = 13 from rfl] at hnx
          go_wp2_with fail
          go_roundg g
          case measure => omega
          case rel => exact ⟨3, by omega, rfl⟩
  · have hne : (r == 65533) = false := by simpa using he
    have HV := Lib.hid (fun W => valid_any r W d1 h1)
    by_cases hv : r < 55296 ∨ (57343 < r ∧ r ≤ 1114111)
    · rw [decide_eq_true hv] at HV
      obtain ⟨R, m, x, hR, hs, hm1, hm3, hx, hl⟩ := encode_high r h0
      have hcv : ∀ W, (convert 21 9 (.int .i32 r)).run Tryd.prog W = .ok (.string R) W := fun W => by rw [← hR]; simp [convert, run_underlying Tryd.underlying21, run_underlying Tryd.underlying9, Conv.intToString]
      have hxn : ∀ y : UInt8, y.toNat < 128 → ((y.toNat : Int) == (x.toNat : Int)) = false := fun y hy => by rw [beq_eq_false_iff_ne]; omega
      have HI := Lib.hid (fun (s : ByteArray) W => idxByte_any s x W)
      have hm : m = 1 ∨ m = 2 ∨ m = 3 := by omega
      have hR1 := hl (by omega)
      clear hv hR hl
      rcases hm with rfl | rfl | rfl
      · have hsz : (R.size : Int) = 2 := by rw [hs]; rfl
        have hxb : ((10 : Int) == (x.toNat : Int)) = false := hxn 10 (by decide)
        have hxb' : ∀ h, ((((⟨#[0, 10, 13]⟩ : ByteArray)[1]'h).toNat : Int) != (x.toNat : Int)) = true := fun h => by rw [bne]; exact (congrArg not hxb)
        have hidx : ∀ h : 1 < R.size, R[1] = x := fun h => hR1
        have hsl : ∀ W, (Instr.slice 9 (.string ⟨#[0, 10, 13]⟩) (some (.int .i64 2)) none none).run Tryd.prog W = .ok (.string ⟨#[13]⟩) W := fun W => by kernel_rfl
        have hlt := no_high [13] x (by simp; intro e; subst e; revert hx; decide)
        have HI1 := Lib.hid (fun W => (HI.out ⟨#[13]⟩ W).mono (R' := fun e w' => e = .returned (.int .i64 (Lib.indexByte [13] x)) ∧ w' = W) fun e w' h => ⟨h.1, h.2.symm⟩)
        have hbr : brkA = ⟨#[0, 10, 13]⟩ := rfl
        rw [hbr]
        clear hs hR1 hxn hbr
        go_enter Tryd.func72, Tryd.ntmps72
        go_wp2_with fail
        refine (HV.out _).mono ?_
        rintro e w' ⟨rfl, rfl⟩
        go_wp2_with fail
        refine wp_scope_straight ?_
        go_wp2_with fail
        go_loopw [9, 10] (fun s9 s10 wr => s9 = .int .i64 1 ∧ s10 = .int .i64 0 ∧ wr = w) (fun _ _ _ => 0)
        case atStart => exact ⟨rfl, rfl, rfl⟩
        case round =>
          obtain ⟨rfl, rfl, rfl⟩ := hrel
          go_wp2_with fail
          refine wp_scope_straight ?_
          go_wp2_with fail
          go_quiet (fail)
          go_wp2_with fail
          go_quiet ((go_at_call 57; exact quiet_more HI1.out))
          go_wp2_with fail
          simp +zetaDelta only [Exit.noGoto, Exit.inBlock, Exit.then]
          go_ret
          exact ⟨rfl, bdN (Below.refl _ _) _⟩
      · have hsz : (R.size : Int) = 3 := by rw [hs]; rfl
        have hxb : ((13 : Int) == (x.toNat : Int)) = false := hxn 13 (by decide)
        have hxb' : ∀ h, ((((⟨#[0, 10, 13]⟩ : ByteArray)[2]'h).toNat : Int) != (x.toNat : Int)) = true := fun h => by rw [bne]; exact (congrArg not hxb)
        have hidx : ∀ h : 2 < R.size, R[2] = x := fun h => hR1
        have hsl : ∀ W, (Instr.slice 9 (.string ⟨#[0, 10, 13]⟩) (some (.int .i64 3)) none none).run Tryd.prog W = .ok (.string ⟨#[]⟩) W := fun W => by kernel_rfl
        have hlt := no_high [] x rfl
        have HI1 := Lib.hid (fun W => (HI.out ⟨#[]⟩ W).mono (R' := fun e w' => e = .returned (.int .i64 (Lib.indexByte [] x)) ∧ w' = W) fun e w' h => ⟨h.1, h.2.symm⟩)
        have hbr : brkA = ⟨#[0, 10, 13]⟩ := rfl
        rw [hbr]
        clear hs hR1 hxn hbr
        go_enter Tryd.func72, Tryd.ntmps72
        go_wp2_with fail
        refine (HV.out _).mono ?_
        rintro e w' ⟨rfl, rfl⟩
        go_wp2_with fail
        refine wp_scope_straight ?_
        go_wp2_with fail
        go_loopw [9, 10] (fun s9 s10 wr => s9 = .int .i64 2 ∧ s10 = .int .i64 0 ∧ wr = w) (fun _ _ _ => 0)
        case atStart => exact ⟨rfl, rfl, rfl⟩
        case round =>
          obtain ⟨rfl, rfl, rfl⟩ := hrel
          go_wp2_with fail
          refine wp_scope_straight ?_
          go_wp2_with fail
          go_quiet (fail)
          go_wp2_with fail
          go_quiet ((go_at_call 57; exact quiet_more HI1.out))
          go_wp2_with fail
          simp +zetaDelta only [Exit.noGoto, Exit.inBlock, Exit.then]
          go_ret
          exact ⟨rfl, bdN (Below.refl _ _) _⟩
      · have hsz : (R.size : Int) = 4 := by rw [hs]; rfl
        have hbr : brkA = ⟨#[0, 10, 13]⟩ := rfl
        rw [hbr]
        clear hs hR1 hxn hbr
        go_enter Tryd.func72, Tryd.ntmps72
        go_wp2_with fail
        refine (HV.out _).mono ?_
        rintro e w' ⟨rfl, rfl⟩
        go_wp2_with fail
        refine wp_scope_straight ?_
        go_wp2_with fail
        go_loopw [9, 10] (fun s9 s10 wr => s9 = .int .i64 3 ∧ s10 = .int .i64 0 ∧ wr = w) (fun _ _ _ => 0)
        case atStart => exact ⟨rfl, rfl, rfl⟩
        case round =>
          obtain ⟨rfl, rfl, rfl⟩ := hrel
          go_wp2_with fail
          simp +zetaDelta only [Exit.noGoto, Exit.inBlock, Exit.then]
          go_ret
          exact ⟨rfl, Below.refl _ _⟩
    · rw [decide_eq_false hv] at HV
      clear hv
      go_enter Tryd.func72, Tryd.ntmps72
      go_wp2_with fail
      refine (HV.out _).mono ?_
      rintro e w' ⟨rfl, rfl⟩
      go_wp2_with fail
      go_ret
      exact ⟨rfl, Below.refl _ _⟩
end Go.Proofs.YtgoglfahlfkbiaaDoor
