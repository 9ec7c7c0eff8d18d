/-
  CONTRACTS: strings.HasPrefix at one byte; the headers with a colon are taken, whatever map keeps them.
-/
import Derived.Test.YtgoglfahlfkbiaaDoorI
import Derived.Maps.OwnSet
import Derived.Maps.OwnOps
import Derived.Maps.Views
import Derived.StringKeys
import Derived.Shelf.Strings.Prefix
namespace Go.Proofs.YtgoglfahlfkbiaaDoor
open Go.RowKit Tt

/-- A text that begins with that byte. -/
def pre1 (c : UInt8) (s : ByteArray) : Bool := Lib.hasPrefix s.data.toList [c]
theorem prefix_any (s : ByteArray) (c : UInt8) (w : World) : Calls Tryd.prog 53 #[.string s, .string ⟨#[c]⟩] w fun e w' => e = .returned (.bool (pre1 c s)) ∧ w = w' := by
  have h := Any.strings_HasPrefix Tryd.lays99 s ⟨#[c]⟩ w
  refine Calls.mono (show Calls Tryd.prog 53 _ _ _ from h) ?_
  rintro e w' ⟨h1, h2⟩
  exact ⟨h1, h2.symm⟩
/-- Where a part of a list of headers begins. -/
def partN (a : Option Addr) (c lo : Nat) : Option Addr := if c = lo then a else a.map (·.add (lo * 3))
theorem elemN : Tryd.prog.underlying 22 = some (.slice (Tryd.prog.elem 22)) := by kernel_rfl
theorem sizeOfN (w : World) : (sizeOf (Tryd.prog.elem 22)).run Tryd.prog w = .ok 3 w := by kernel_rfl
theorem slice_n (a : Option Addr) (n c : Nat) (lo : Nat) (h1 : lo ≤ n) (w : World) :
    (Instr.slice 22 (.slice a n c) (some (.int .i64 (lo : Int))) none none).run Tryd.prog w = .ok (.slice (partN a c lo) (n - lo) (c - lo)) w := by
  rw [run_slice_l w _ _ _ _ elemN .i64 (lo : Int) (by omega) (by omega), sizeOfN]
  rfl
theorem ns_part {w : World} {a : Option Addr} {n c : Nat} {L : List Hn} (h : Ns w a n c L) (lo : Nat) (hlo : lo ≤ n) : Ns w (partN a c lo) (n - lo) (c - lo) (L.drop lo) := by
  have hl := h.len
  have hle := h.le
  have hmx := h.max
  refine ⟨by simp; omega, by omega, by omega, fun hn => ?_, fun i hi => ?_⟩
  · unfold partN at hn
    split at hn
    · omega
    · cases a with
      | none => have := h.nil rfl; omega
      | some q => simp at hn
  · simp at hi
    obtain ⟨b, o, e, c0, c1, c2⟩ := h.row (lo + i) (by omega)
    subst e
    refine ⟨b, o + lo * 3, ?_, ?_⟩
    · unfold partN
      rw [if_neg (by omega)]
      simp [Addr.add_lit]
    · simp only [List.getElem_drop]
      rw [show o + lo * 3 + i * 3 = o + (lo + i) * 3 by omega]
      exact ⟨c0, c1, c2⟩
theorem sm_drop {L : List Hn} (h : Sm L) (k : Nat) : Sm (L.drop k) := fun i hi => by
  simp at hi
  simp only [List.getElem_drop]
  exact h (k + i) (by omega)
/-- A map of keepers reads as itself. -/
def fnR (v : Value) : Option (DataW Value × List MemPlace) := some (.held v, [])
def kn (D : DataW Value) (x : ByteArray) : Bool := Maps.has D (.string x.data.toList)
/-- The headers with a colon, one by one. -/
def takeG {σ : Type} (D : σ → DataW Value) (okv : σ → ByteArray → ByteArray → Bool) (st : σ → ByteArray → ByteArray → σ) : σ → List Hn → Option (σ × List Hn)
  | S, [] => some (S, [])
  | S, h :: t => if pre1 58 h.1.1 = true then (if kn (D S) h.1.1 = true ∧ valueB h.1.2 = true ∧ okv S h.1.1 h.1.2 = true then takeG D okv st (st S h.1.1 h.1.2) t else none) else some (S, h :: t)
def lenOf : Value → Nat
  | .slice _ n _ => n
  | _ => 0
/-- What keeps the headers of a state: the map at block mb, the box at block r. -/
structure Keeps {σ : Type} (D : σ → DataW Value) (okv : σ → ByteArray → ByteArray → Bool) (st : σ → ByteArray → ByteArray → σ) (BoxI : σ → World → Prop) (p mb r : Nat) : Prop where
  pm : p ≤ mb
  pr : p ≤ r
  ne : mb ≠ r
  box : ∀ S W W', BoxI S W → (∀ g, p ≤ g → g < W.heap.size → g ≠ mb → W'.heap[g]? = W.heap[g]?) → BoxI S W'
  fn : ∀ S x, kn (D S) x = true → ∃ F q, (∀ z, (D S).atKey (.string x.data.toList) z = .held (.func (.func F) #[] #[.pointer (some ⟨q, 0, none⟩)])) ∧ (∀ args W, (callFunc F args).run Tryd.prog W = .ok (.enter F args) W) ∧
    ∀ v W, BoxI S W → v.size ≤ 140737488355328 → Calls Tryd.prog F #[.string v, .pointer (some ⟨q, 0, none⟩)] W fun e W' => e = .returned (.bool (okv S x v)) ∧ Kp r W W' ∧ BoxI (st S x v) W'
  del : ∀ S x v, kn (D S) x = true → D (st S x v) = (D S).del (.string x.data.toList)
def GRel {σ : Type} (D : σ → DataW Value) (okv : σ → ByteArray → ByteArray → Bool) (st : σ → ByteArray → ByteArray → σ) (BoxI : σ → World → Prop) (mb : Nat) (w0 : World) (S0 : σ) (L : List Hn) (s1 : Value) (wr : World) : Prop :=
  ∃ S a n c M, s1 = .slice a n c ∧ Ns w0 a n c M ∧ Sm M ∧ takeG D okv st S0 L = takeG D okv st S M ∧ wr.ownsMap Tryd.prog 9 fnR mb 8 (D S) ∧ BoxI S wr ∧ Below w0.heap.size w0 wr
def GPost {σ : Type} (D : σ → DataW Value) (okv : σ → ByteArray → ByteArray → Bool) (st : σ → ByteArray → ByteArray → σ) (BoxI : σ → World → Prop) (w0 : World) (S0 : σ) (L : List Hn) (e : Ending) (w' : World) : Prop := Below w0.heap.size w0 w' ∧ match takeG D okv st S0 L with
  | none => e = .returned (.tuple #[.slice none 0 0, .bool false])
  | some (S, R) => ∃ a n c, e = .returned (.tuple #[.slice a n c, .bool (trailB R)]) ∧ Ns w0 a n c R ∧ BoxI S w'
theorem map_kept {w w' : World} {mb n : Nat} {D : DataW Value} (h : w.ownsMap Tryd.prog 9 fnR mb n D) (hb : w'.heap[mb]? = w.heap[mb]?) : w'.ownsMap Tryd.prog 9 fnR mb n D := by
  obtain ⟨es, clock, hh, r⟩ := h
  exact ⟨es, clock, hb.trans hh, r⟩
theorem map_lt {w : World} {mb n : Nat} {D : DataW Value} (h : w.ownsMap Tryd.prog 9 fnR mb n D) : mb < w.heap.size := by
  obtain ⟨es, clock, hh, _⟩ := h
  exact (Array.getElem?_eq_some_iff.1 hh).1
theorem slice_n1 (a : Option Addr) (n c : Nat) (h1 : 1 ≤ n) (w : World) : (Instr.slice 22 (.slice a n c) (some (.int .i64 1)) none none).run Tryd.prog w = .ok (.slice (partN a c 1) (n - 1) (c - 1)) w := slice_n a n c 1 h1 w
theorem zeroFn (w : World) : (zeroValue 55).run Tryd.prog w = .ok .nilFunc w := by kernel_rfl
theorem look_known {w : World} {mb n : Nat} {D : DataW Value} (h : w.ownsMap Tryd.prog 9 fnR mb n D) (x : ByteArray) (hx : x.size ≤ maxLen) (hk : kn D x = true) (fv : Value) (hat : ∀ z, D.atKey (.string x.data.toList) z = .held fv) :
    (Instr.lookup 70 (.map (some mb)) (.string x) true).run Tryd.prog w = .ok (.tuple #[fv, .bool true]) w := by
  obtain ⟨v, ps, hrun, hv⟩ := h.look_ok (Maps.string_keyed Tryd.underlying9) Tryd.underlying70 (zeroFn w) (R := fnR) (zd := .held .nilFunc) (zp := []) rfl (Go.WideMaps.keyOf_string_mk Tryd.underlying9 hx)
  rw [hat] at hv
  simp only [fnR, Option.some.injEq, Prod.mk.injEq, DataW.held.injEq] at hv
  unfold kn at hk
  rw [hrun, hk, hv.1]
theorem look_unknown {w : World} {mb n : Nat} {D : DataW Value} (h : w.ownsMap Tryd.prog 9 fnR mb n D) (x : ByteArray) (hx : x.size ≤ maxLen) (hk : kn D x = false) :
    (Instr.lookup 70 (.map (some mb)) (.string x) true).run Tryd.prog w = .ok (.tuple #[.nilFunc, .bool false]) w := by
  obtain ⟨v, ps, hrun, hv⟩ := h.look_ok (Maps.string_keyed Tryd.underlying9) Tryd.underlying70 (zeroFn w) (R := fnR) (zd := .held .nilFunc) (zp := []) rfl (Go.WideMaps.keyOf_string_mk Tryd.underlying9 hx)
  unfold kn at hk
  rw [Maps.atKey_of_not_has hk] at hv
  simp only [fnR, Option.some.injEq, Prod.mk.injEq, DataW.held.injEq] at hv
  rw [hrun, hk, hv.1]
end Go.Proofs.YtgoglfahlfkbiaaDoor
