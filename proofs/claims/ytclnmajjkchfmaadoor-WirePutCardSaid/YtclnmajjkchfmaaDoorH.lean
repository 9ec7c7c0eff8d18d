/-
  CONTRACTS: which reader a kind has; groupBody.
-/
import Derived.Test.YtclnmajjkchfmaaDoorG
namespace Go.Proofs.YtclnmajjkchfmaaDoor
open Go.RowKit Wr

/-- How the reader of a kind is found, and what it answers. -/
def DispA (ea : Nat → Addr) (w0 : World) (mb d depth k : Nat) : Prop := ∃ F, (∀ (args : Array Value) (W : World), (callFunc F args).run Tryd.prog W = .ok (.enter F args) W) ∧
  (∀ W, Below w0.heap.size w0 W → (Instr.lookup 84 (.map (some mb)) (.int .i64 (k : Int)) false).run Tryd.prog W = .ok (.func (.func F) #[] #[]) W) ∧
  (∀ W a n c l (f : Nat), Below w0.heap.size w0 W → Sl w0 a n c l → Calls Tryd.prog F #[.slice a n c, .int .i64 (f : Int), .int .i64 (depth : Int)] W (BodyPost ea (body d k l f) w0 W))
def DispB (ea : Nat → Addr) (w0 : World) (mb d depth k : Nat) : Prop := ∃ F bp, (∀ (args : Array Value) (W : World), (callFunc F args).run Tryd.prog W = .ok (.enter F args) W) ∧
  (∀ W, Below w0.heap.size w0 W → (Instr.lookup 84 (.map (some mb)) (.int .i64 (k : Int)) false).run Tryd.prog W = .ok (.func (.func F) #[] #[.pointer (some ⟨bp, 0, none⟩)]) W) ∧
  (∀ W a n c l (f : Nat), Below w0.heap.size w0 W → Sl w0 a n c l → Calls Tryd.prog F #[.slice a n c, .int .i64 (f : Int), .int .i64 (depth : Int), .pointer (some ⟨bp, 0, none⟩)] W (BodyPost ea (body d k l f) w0 W))
def DispC (ea : Nat → Addr) (w0 : World) (mb d depth k : Nat) : Prop := ∃ F, (∀ (args : Array Value) (W : World), (callFunc F args).run Tryd.prog W = .ok (.enter F args) W) ∧
  (∀ W, Below w0.heap.size w0 W → (Instr.lookup 84 (.map (some mb)) (.int .i64 (k : Int)) false).run Tryd.prog W = .ok (.func (.func F) #[.map (some mb)] #[]) W) ∧
  (∀ W a n c l (f : Nat), Below w0.heap.size w0 W → Sl w0 a n c l → Calls Tryd.prog F #[.map (some mb), .slice a n c, .int .i64 (f : Int), .int .i64 (depth : Int)] W (BodyPost ea (body d k l f) w0 W))

/-- What groupBody is shown to do, d groups more being let be. -/
def GroupSaid (ea : Nat → Addr) (w0 : World) (mb d depth : Nat) : Prop := ∀ W a n c l (f : Nat), Below w0.heap.size w0 W → Sl w0 a n c l →
  Calls Tryd.prog 69 #[.map (some mb), .slice a n c, .int .i64 (f : Int), .int .i64 (depth : Int)] W (BodyPost ea (body d 3 l f) w0 W)

theorem cf0 (args : Array Value) (W : World) : (callFunc 65 args).run Tryd.prog W = .ok (.enter 65 args) W := by kernel_rfl
theorem cf1 (args : Array Value) (W : World) : (callFunc 77 args).run Tryd.prog W = .ok (.enter 77 args) W := by kernel_rfl
theorem cf2 (args : Array Value) (W : World) : (callFunc 67 args).run Tryd.prog W = .ok (.enter 67 args) W := by kernel_rfl
theorem cf3 (args : Array Value) (W : World) : (callFunc 69 args).run Tryd.prog W = .ok (.enter 69 args) W := by kernel_rfl
theorem cf4 (args : Array Value) (W : World) : (callFunc 68 args).run Tryd.prog W = .ok (.enter 68 args) W := by kernel_rfl

theorem disp {ea : Nat → Addr} {w0 : World} {mb b8 b4 d depth k : Nat} (E0 : Env w0 ea) (R0 : Readers w0 mb b8 b4) (hg : GroupSaid ea w0 mb d depth) (hk : k ≤ 5) :
    DispA ea w0 mb d depth k ∨ DispB ea w0 mb d depth k ∨ DispC ea w0 mb d depth k := by
  have hk' : k = 0 ∨ k = 1 ∨ k = 2 ∨ k = 3 ∨ k = 4 ∨ k = 5 := by omega
  rcases hk' with rfl | rfl | rfl | rfl | rfl | rfl
  · refine Or.inl ⟨_, cf0, fun W hB => (R0.kept hB).look0, fun W a n c l f hB hs => ?_⟩
    rw [body0]; exact varintBody_any ea a n c l _ _ w0 W hs E0 hB
  · refine Or.inr (Or.inl ⟨_, b8, cf1, fun W hB => (R0.kept hB).look1, fun W a n c l f hB hs => ?_⟩)
    rw [body1]; exact fixedBody1_any ea a n c l _ _ b8 8 (Or.inr rfl) w0 W hs E0 hB (R0.kept hB).c8
  · refine Or.inl ⟨_, cf2, fun W hB => (R0.kept hB).look2, fun W a n c l f hB hs => ?_⟩
    rw [body2]; exact bytesBody_any ea a n c l _ _ w0 W hs E0 hB
  · exact Or.inr (Or.inr ⟨_, cf3, fun W hB => (R0.kept hB).look3, fun W a n c l f hB hs => hg W a n c l f hB hs⟩)
  · refine Or.inl ⟨_, cf4, fun W hB => (R0.kept hB).look4, fun W a n c l f hB hs => ?_⟩
    rw [body4]; exact endBody_any ea a n c _ _ w0 W E0 hB
  · refine Or.inr (Or.inl ⟨_, b4, cf1, fun W hB => (R0.kept hB).look5, fun W a n c l f hB hs => ?_⟩)
    rw [body5]; exact fixedBody1_any ea a n c l _ _ b4 4 (Or.inl rfl) w0 W hs E0 hB (R0.kept hB).c4

/-- record, whatever stands there. -/
theorem record_any {ea : Nat → Addr} {w0 : World} {mb b8 b4 d depth : Nat} (E0 : Env w0 ea) (R0 : Readers w0 mb b8 b4) (hg : GroupSaid ea w0 mb d depth)
    (a : Option Addr) (n c : Nat) (l : List UInt8) (hs0 : Sl w0 a n c l) (w : World) (hB : Below w0.heap.size w0 w) :
    Calls Tryd.prog 51 #[.map (some mb), .slice a n c, .int .i64 (depth : Int)] w (RecPost ea (rec d l) w0 w) := by
  cases ht : readTag l with
  | er x =>
    have HR : Hid (rec d l = .er x) := Lib.hid (by unfold rec; rw [ht])
    have hs := hs0.kept hB
    have E := E0.kept hB
    have HB := Lib.hid hB; clear hB
    go_enter Tryd.func51, Tryd.ntmps51
    go_wp2_with fail
    refine (readTag_no ea a n c l _ (hs.alloc _) (E.alloc _) x ht).mono ?_
    clear ht
    rintro e w' ⟨rfl, nq, rfl⟩
    go_wp2_with fail
    refine bodyPost_ret (v := .tuple #[.agg #[.int .i64 0, .int .i64 0, .int .u64 0, .slice none 0 0], .int .i64 0, errV ea x]) (by simp [results, Tryd.results51, go_sem]) rfl ?_
    refine ⟨?_, by rw [HR.out]⟩
    (repeat (first | exact Below.refl _ _ | assumption | (refine Below.setCell ?_ (by simp) _) | (refine bdN ?_ _) | (refine Below.drew ?_) | (refine Below.alloc ?_ (by simp) _)))
  | ok p =>
    obtain ⟨f, k, m⟩ := p
    have hr := readTag_ok ht
    have hlen := hs0.len
    have hle := hs0.le
    have hnine := hs0.nine
    have hsub : Sl w0 (partAt a c m) (n - m) (c - m) (l.drop m) := sl_part hs0 m (n - m) (by omega) _ (by rw [List.take_of_length_le (by simp; omega)])
    have hfit := body_fits d k (l.drop m) f
    cases hb : body d k (l.drop m) f with
    | er x =>
      have hrec : rec d l = .er x := by unfold rec; rw [ht]; simp only [hb]
      rw [hrec]
      rcases disp E0 R0 hg hr.2.2.2.2 with ⟨F, h1, h2, h3⟩ | ⟨F, bp, h1, h2, h3⟩ | ⟨F, h1, h2, h3⟩
      · exact record_a_er ea mb 0 a n c l w0 w hs0 E0 hB _ f k m ht F x h1 h2 (fun W hW => by rw [← hb]; exact h3 W _ _ _ _ f hW hsub)
      · exact record_b_er ea mb bp a n c l w0 w hs0 E0 hB _ f k m ht F x h1 h2 (fun W hW => by rw [← hb]; exact h3 W _ _ _ _ f hW hsub)
      · exact record_c_er ea mb 0 a n c l w0 w hs0 E0 hB _ f k m ht F x h1 h2 (fun W hW => by rw [← hb]; exact h3 W _ _ _ _ f hW hsub)
    | ok q =>
      obtain ⟨u, b, s⟩ := q
      rw [hb] at hfit
      obtain ⟨_, _, hs3⟩ := hfit
      rw [List.length_drop] at hs3
      have hrec : rec d l = .ok (⟨f, k, u, b⟩, m + s) := by unfold rec; rw [ht]; simp only [hb]
      rw [hrec]
      rcases disp E0 R0 hg hr.2.2.2.2 with ⟨F, h1, h2, h3⟩ | ⟨F, bp, h1, h2, h3⟩ | ⟨F, h1, h2, h3⟩
      · exact record_a_ok ea mb 0 a n c l w0 w hs0 E0 hB _ f k m ht F u b s (by omega) h1 h2 (fun W hW => by rw [← hb]; exact h3 W _ _ _ _ f hW hsub)
      · exact record_b_ok ea mb bp a n c l w0 w hs0 E0 hB _ f k m ht F u b s (by omega) h1 h2 (fun W hW => by rw [← hb]; exact h3 W _ _ _ _ f hW hsub)
      · exact record_c_ok ea mb 0 a n c l w0 w hs0 E0 hB _ f k m ht F u b s (by omega) h1 h2 (fun W hW => by rw [← hb]; exact h3 W _ _ _ _ f hW hsub)

end Go.Proofs.YtclnmajjkchfmaaDoor
