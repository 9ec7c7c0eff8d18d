/-
  HeadMore's fourth region: make, two appends, a slice of one: in whatever order.
-/
import Derived.Test.YtgoglfahlfkbiaaDoorZ
namespace Go.Proofs.YtgoglfahlfkbiaaDoor
open Go.RowKit Tt

/-- The frame as it stands at the region. -/
def frM (a : Option Addr) (n c : Nat) (gn gv : ByteArray) (gb : Bool) (h : Nat) (v6 v44 v45 v46 v47 v48 v49 : Value) : Act := ⟨#[.slice a n c, .agg #[.string gn, .string gv, .bool gb], undef, .pointer (some ⟨h, 0, none⟩), .bool false, .bool true, v6, undef, undef, undef, undef, undef, undef, undef, undef, undef, undef, undef, undef, undef, .bool true, .slice a n c, .bool true, .bool false, .bool false, .slice a n c, .int .i64 (n : Int), .bool false, .bool false, .bool false, .pointer (some ⟨h, 0, none⟩), .string gn, .int .i64 (gn.size : Int), .pointer (some ⟨h, 1, none⟩), .string gv, .int .i64 (gv.size : Int), .int .i64 ((gn.size : Int) + (gv.size : Int)), .bool false, .bool false, .bool false, .bool true, .bool false, .bool false, undef, v44, v45, v46, v47, v48, v49, undef, undef, undef, undef, undef, undef, undef, undef, undef, undef, undef, undef, undef, undef, undef, undef, undef, undef, undef, undef, undef, undef, undef, undef, undef, undef, undef, undef, undef, undef, undef, undef, undef, undef, undef, undef, undef, undef, undef, undef, undef, undef, undef, undef, undef, undef, undef, undef, undef, undef, undef, undef, undef, undef, undef, undef, undef, undef, undef, undef, undef, undef, undef, undef, undef, undef, undef, undef, undef, undef, undef, undef, undef, undef, undef], []⟩
structure MI (B : Nat) (w2 : World) (a : Option Addr) (n c : Nat) (L : List Hn) (g : Hn) (b0 b1 b2 b3 b4 b5 b6 : Bool) (v6 v44 v45 v46 v47 v48 v49 : Value) (W : World) : Prop where
  bl : Below B w2 W
  d2 : b2 = true → b0 = true
  d5 : b5 = true → b2 = true ∧ b4 = true
  d6 : b6 = true → b5 = true
  c0 : b0 = true → b2 = false → NOwn W B v44 []
  c1 : b1 = true → v45 = .slice a n c
  c2 : b2 = true → b5 = false → NOwn W B v46 L
  c3 : b3 = true → v47 = .agg #[.string g.1.1, .string g.1.2, .bool g.2]
  c4 : b4 = true → b5 = false → ∃ q, v48 = .slice (some ⟨q, 0, none⟩) 1 1 ∧ Ns W (some ⟨q, 0, none⟩) 1 1 [g] ∧ (b0 = true → b2 = false → v44.ownBlock ≠ some q) ∧ (b2 = true → v46.ownBlock ≠ some q)
  c5 : b5 = true → ∃ ad N cc, v49 = .slice ad N cc ∧ Hid (N = (L ++ [g]).length) ∧ NOwn W B (.slice ad N cc) (L ++ [g])
  c6 : b6 = true → v6 = v49
theorem nown_lt {w : World} {B : Nat} {v : Value} {l : List Hn} (h : NOwn w B v l) {k : Nat} (hk : v.ownBlock = some k) : k < w.heap.size := (World.ownsRow.lt h k hk).2
theorem ns_one {w w' : World} {q : Nat} {g : Hn} (h : Ns w (some ⟨q, 0, none⟩) 1 1 [g]) (hb : w'.heap[q]? = w.heap[q]?) : q < w.heap.size ∧ Ns w' (some ⟨q, 0, none⟩) 1 1 [g] := by
  have hr := h.row 0 (by simp)
  obtain ⟨b, o, e, c0, c1, c2⟩ := hr
  cases e
  refine ⟨cell_lt c0, h.len, h.le, h.max, h.nil, fun i hi => ?_⟩
  obtain rfl : i = 0 := by simpa using hi
  exact ⟨q, 0, rfl, (World.cell?_of_block (a := ⟨q, _, none⟩) hb).trans c0, (World.cell?_of_block (a := ⟨q, _, none⟩) hb).trans c1, (World.cell?_of_block (a := ⟨q, _, none⟩) hb).trans c2⟩
variable {B : Nat} {w2 W : World} {a : Option Addr} {n c : Nat} {L : List Hn} {g : Hn} {b0 b1 b2 b3 b4 b5 b6 : Bool} {v6 v44 v45 v46 v47 v48 v49 : Value}
theorem MI.start (hb : Below B w2 W) : MI B w2 a n c L g false false false false false false false v6 v44 v45 v46 v47 v48 v49 W :=
  ⟨hb, (fun h => by cases h), (fun h => by cases h), (fun h => by cases h), (fun h => by cases h), (fun h => by cases h), (fun h => by cases h), (fun h => by cases h), (fun h => by cases h), (fun h => by cases h), (fun h => by cases h)⟩
theorem MI.made (h : MI B w2 a n c L g false b1 b2 b3 b4 b5 b6 v6 v44 v45 v46 v47 v48 v49 W) {W' : World} (hBW : B ≤ W.heap.size) (ho : NOwn W' B (.slice (some ⟨W.heap.size, 0, none⟩) 0 64) []) (hb : Below W.heap.size W W') :
    MI B w2 a n c L g true b1 b2 b3 b4 b5 b6 v6 (.slice (some ⟨W.heap.size, 0, none⟩) 0 64) v45 v46 v47 v48 v49 W' := by
  have h2 : b2 = false := by
    cases hb2 : b2 with
    | false => rfl
    | true => have := h.d2 hb2; cases this
  have h5 : b5 = false := by
    cases hb5 : b5 with
    | false => rfl
    | true => have := (h.d5 hb5).1; rw [h2] at this; cases this
  subst h2 h5
  refine ⟨h.bl.trans (hb.mono hBW), fun _ => rfl, h.d5, h.d6, fun _ _ => ho, h.c1, (fun h => by cases h), h.c3, fun h4 _ => ?_, (fun h => by cases h), h.c6⟩
  obtain ⟨q, e, hq, _, _⟩ := h.c4 h4 rfl
  have hlt := (ns_one hq rfl).1
  exact ⟨q, e, (ns_one hq (hb.block q hlt)).2, fun _ _ => by simp [Value.ownBlock]; omega, (fun h => by cases h)⟩
theorem MI.moved (h : MI B w2 a n c L g b0 false b2 b3 b4 b5 b6 v6 v44 v45 v46 v47 v48 v49 W) : MI B w2 a n c L g b0 true b2 b3 b4 b5 b6 v6 v44 (.slice a n c) v46 v47 v48 v49 W :=
  ⟨h.bl, h.d2, h.d5, h.d6, h.c0, fun _ => rfl, h.c2, h.c3, h.c4, h.c5, h.c6⟩
theorem MI.loaded (h : MI B w2 a n c L g b0 b1 b2 false b4 b5 b6 v6 v44 v45 v46 v47 v48 v49 W) : MI B w2 a n c L g b0 b1 b2 true b4 b5 b6 v6 v44 v45 v46 (.agg #[.string g.1.1, .string g.1.2, .bool g.2]) v48 v49 W :=
  ⟨h.bl, h.d2, h.d5, h.d6, h.c0, h.c1, h.c2, fun _ => rfl, h.c4, h.c5, h.c6⟩
theorem MI.assigned (h : MI B w2 a n c L g b0 b1 b2 b3 b4 true false v6 v44 v45 v46 v47 v48 v49 W) : MI B w2 a n c L g b0 b1 b2 b3 b4 true true v49 v44 v45 v46 v47 v48 v49 W :=
  ⟨h.bl, h.d2, h.d5, fun _ => rfl, h.c0, h.c1, h.c2, h.c3, h.c4, h.c5, fun _ => rfl⟩
theorem MI.built (h : MI B w2 a n c L g b0 b1 b2 b3 false b5 b6 v6 v44 v45 v46 v47 v48 v49 W) (hBW : B ≤ W.heap.size) :
    MI B w2 a n c L g b0 b1 b2 b3 true b5 b6 v6 v44 v45 v46 v47 (.slice (some ⟨W.heap.size, 0, none⟩) 1 1) v49 (W.alloc (.cells #[.string g.1.1, .string g.1.2, .bool g.2] 54)) := by
  have h5 : b5 = false := by
    cases hb5 : b5 with
    | false => rfl
    | true => have := (h.d5 hb5).2; cases this
  subst h5
  refine ⟨h.bl.alloc hBW _, h.d2, (fun h => by cases h), h.d6, fun x y => (h.c0 x y).alloc _, h.c1, fun x y => (h.c2 x y).alloc _, h.c3, fun _ _ => ⟨_, rfl, ns_new1 W g, fun x y e => ?_, fun x e => ?_⟩, (fun h => by cases h), h.c6⟩
  · have := nown_lt (h.c0 x y) e
    omega
  · have := nown_lt (h.c2 x rfl) e
    omega
theorem MI.app1 (h : MI B w2 a n c L g true true false b3 b4 b5 b6 v6 v44 v45 v46 v47 v48 v49 W) {W' : World} {ad : Option Addr} {N cc : Nat} (ho : NOwn W' B (.slice ad N cc) L) (hb : Below B W W')
    (hk : ∀ x, x < W.heap.size → v44.ownBlock ≠ some x → W'.heap[x]? = W.heap[x]? ∧ (Value.slice ad N cc).ownBlock ≠ some x) : MI B w2 a n c L g true true true b3 b4 b5 b6 v6 v44 v45 (.slice ad N cc) v47 v48 v49 W' := by
  have h5 : b5 = false := by
    cases hb5 : b5 with
    | false => rfl
    | true => have := (h.d5 hb5).1; cases this
  subst h5
  refine ⟨h.bl.trans hb, fun _ => rfl, (fun h => by cases h), h.d6, (fun _ h => by cases h), h.c1, fun _ _ => ho, h.c3, fun h4 _ => ?_, (fun h => by cases h), h.c6⟩
  obtain ⟨q, e, hq, h1, _⟩ := h.c4 h4 rfl
  have hlt := (ns_one hq rfl).1
  obtain ⟨k1, k2⟩ := hk q hlt (h1 rfl rfl)
  exact ⟨q, e, (ns_one hq k1).2, (fun _ h => by cases h), fun _ => k2⟩
theorem MI.app2 (h : MI B w2 a n c L g b0 b1 true b3 true false b6 v6 v44 v45 v46 v47 v48 v49 W) {W' : World} {ad : Option Addr} {N cc : Nat} (hN : Hid (N = (L ++ [g]).length)) (ho : NOwn W' B (.slice ad N cc) (L ++ [g])) (hb : Below B W W') :
    MI B w2 a n c L g b0 b1 true b3 true true b6 v6 v44 v45 v46 v47 v48 (.slice ad N cc) W' := by
  have h6 : b6 = false := by
    cases hb6 : b6 with
    | false => rfl
    | true => have := h.d6 hb6; cases this
  subst h6
  exact ⟨h.bl.trans hb, h.d2, fun _ => ⟨rfl, rfl⟩, (fun h => by cases h), (fun _ h => by cases h), h.c1, (fun _ h => by cases h), h.c3, (fun _ h => by cases h), fun _ => ⟨ad, N, cc, rfl, hN, ho⟩, (fun h => by cases h)⟩
end Go.Proofs.YtgoglfahlfkbiaaDoor
