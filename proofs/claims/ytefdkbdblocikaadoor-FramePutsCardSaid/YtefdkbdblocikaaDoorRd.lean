/-
  WHAT THE TYPES' PAYLOADS SAY, as plain data; the readers of data and of windows.
-/
import Derived.Test.YtefdkbdblocikaaDoorSb
import Derived.Test.YtefdkbdblocikaaDoorCl
namespace Go.Proofs.YtefdkbdblocikaaDoor
open Go.RowKit Hu

/-- What a stream hangs on. -/
def depM (I : IV) (l : List UInt8) : Except (Int × Int) IV :=
  if ((numB (l.take 4) % 2147483648 : Nat) : Int) = I.st then .error (1, I.st) else .ok { I with dep := (numB (l.take 4) % 2147483648 : Nat), al := decide (2147483648 ≤ numB (l.take 4)), wt := (numB ((l.drop 4).take 1) : Nat) + 1 }
/-- The code of what is wrong with a setting; 0: nothing. -/
def setFault (i v : Nat) : Int := if i = 2 ∧ 1 < v then 1 else if i = 4 ∧ 2147483647 < v then 3 else if i = 5 ∧ (v < 16384 ∨ 16777216 ≤ v) then 1 else 0
def setsM : List UInt8 → Except Int (List (Int × Int))
  | a :: b :: c :: d :: e :: f :: t => if setFault (numB [a, b]) (numB [c, d, e, f]) = 0 then (setsM t).map fun S => ((numB [a, b] : Int), (numB [c, d, e, f] : Int)) :: S else .error (setFault (numB [a, b]) (numB [c, d, e, f]))
  | _ => .ok []
/-- What a payload says. -/
def readM (ty : Int) (I : IV) (l : List UInt8) : Except (Int × Int) (IV × List (Int × Int) × List UInt8) :=
  if ty = 1 then (if I.pr = false then .ok (I, [], l) else if l.length < 5 then .error (6, 0) else (depM I l).map fun I => (I, [], l.drop 5))
  else if ty = 2 then (if l.length ≠ 5 then .error (6, I.st) else (depM I l).map fun I => (I, [], []))
  else if ty = 3 then (if l.length ≠ 4 then .error (6, 0) else .ok ({ I with co := (numB l : Nat) }, [], []))
  else if ty = 4 then (if l.length % 6 ≠ 0 ∨ (I.ak = true ∧ l ≠ []) then .error (6, 0) else match setsM l with | .error k => .error (k, 0) | .ok S => .ok (I, S, []))
  else if ty = 5 then (if l.length < 4 then .error (6, 0) else if numB (l.take 4) % 2147483648 = 0 then .error (1, 0) else .ok ({ I with pm := (numB (l.take 4) % 2147483648 : Nat) }, [], l.drop 4))
  else if ty = 6 then (if l.length ≠ 8 then .error (6, 0) else .ok (I, [], l))
  else if ty = 7 then (if l.length < 8 then .error (6, 0) else .ok ({ I with la := (numB (l.take 4) % 2147483648 : Nat), co := (numB ((l.drop 4).take 4) : Nat) }, [], l.drop 8))
  else if ty = 8 then (if l.length ≠ 4 then .error (6, 0) else if numB l % 2147483648 = 0 then .error (1, I.st) else .ok ({ I with ic := (numB l % 2147483648 : Nat) }, [], []))
  else .ok (I, [], l)
/-- What a frame says. -/
def openM (ty fl st : Int) (l : List UInt8) : Except (Int × Int) (IV × List (Int × Int) × List UInt8) := match ahead ty fl st l with
  | .error x => .error x
  | .ok (I, m) => readM ty I m
/-- The cells of settings. -/
def setCs (S : List (Int × Int)) : List Value := (S.map fun s => [Value.int .i64 s.1, Value.int .i64 s.2]).flatten
/-- Settings of the call's own, from block B on. -/
def SOwn (w : World) (B : Nat) (v : Value) (S : List (Int × Int)) : Prop := w.ownsRow B 118 2 v S.length (setCs S)
theorem SOwn.nil (w : World) (B : Nat) : SOwn w B (.slice none 0 0) [] := World.ownsRow_nil _ _ _ _
theorem SOwn.kb {w w' : World} {B b : Nat} {v : Value} {S : List (Int × Int)} (h : SOwn w B v S) (hb : b < B) (hk : Kb b w w') : SOwn w' B v S := by
  obtain ⟨h1, h2⟩ := h
  refine ⟨h1, ?_⟩
  rcases h2 with h2 | ⟨g, cap, cur, hv, hg, hh, q⟩
  · exact Or.inl h2
  · refine Or.inr ⟨g, cap, cur, hv, hg, ?_, q⟩
    rw [hk.block g (Array.getElem?_eq_some_iff.1 hh).1 (by omega)]
    exact hh
theorem SOwn.one {w : World} {B : Nat} {v : Value} {S : List (Int × Int)} (h : SOwn w B v S) : v.oneCell' = true := by
  obtain ⟨h1, h2⟩ := h
  rcases h2 with ⟨rfl, _⟩ | ⟨g, cap, cur, rfl, _⟩ <;> rfl
theorem SOwn.mono {w : World} {B B' : Nat} {v : Value} {S : List (Int × Int)} (h : SOwn w B v S) (hB : B' ≤ B) : SOwn w B' v S := by
  obtain ⟨h1, h2⟩ := h
  refine ⟨h1, ?_⟩
  rcases h2 with h2 | ⟨g, cap, cur, hv, hg, q⟩
  · exact Or.inl h2
  · exact Or.inr ⟨g, cap, cur, hv, by omega, q⟩
theorem SOwn.kept {w w' : World} {B : Nat} {v : Value} {S : List (Int × Int)} (h : SOwn w B v S) (hb : Below w.heap.size w w') : SOwn w' B v S := by
  obtain ⟨h1, h2⟩ := h
  refine ⟨h1, ?_⟩
  rcases h2 with h2 | ⟨g, cap, cur, hv, hg, hh, q⟩
  · exact Or.inl h2
  · refine Or.inr ⟨g, cap, cur, hv, hg, ?_, q⟩
    rw [hb.block g (Array.getElem?_eq_some_iff.1 hh).1]
    exact hh
/-- A value is a piece of a slice that reads as l: it reads as d. -/
def Part (v : Value) (l : List UInt8) (x : Value) (d : List UInt8) : Prop :=
  (x = .slice none 0 0 ∧ d = []) ∨ (x = v ∧ d = l ∧ ∃ a n c, v = .slice a n c) ∨ ∃ a n c k N, v = .slice a n c ∧ x = .slice (Hu.partAt a c k) N (c - k) ∧ k + N ≤ n ∧ d = (l.drop k).take N
theorem Part.one {v x : Value} {l d : List UInt8} (h : Part v l x d) : x.oneCell' = true := by
  rcases h with ⟨rfl, _⟩ | ⟨rfl, _, a, n, c, rfl⟩ | ⟨a, n, c, k, N, _, rfl, _⟩ <;> rfl
theorem Part.sl {w : World} {a : Option Addr} {n c : Nat} {l : List UInt8} {x : Value} {d : List UInt8} (h : Part (.slice a n c) l x d) (hs : Sl w a n c l) : ∃ a' n' c', x = .slice a' n' c' ∧ Sl w a' n' c' d ∧ n' ≤ n := by
  rcases h with ⟨rfl, rfl⟩ | ⟨rfl, rfl, _⟩ | ⟨a1, n1, c1, k, N, e, rfl, hk, rfl⟩
  · exact ⟨none, 0, 0, rfl, sl_nil0 w, by omega⟩
  · exact ⟨a, n, c, rfl, hs, Nat.le_refl _⟩
  · cases e
    exact ⟨_, _, _, rfl, sl_part hs k N hk _ rfl, by omega⟩
def RdP (B : Nat) (v : Value) (l : List UInt8) (I : IV) (S : List (Int × Int)) (d : List UInt8) (J : IV) (W : World) : Prop := J = { I with sv := J.sv, dv := J.dv } ∧ SOwn W B J.sv S ∧ Part v l J.dv d
/-- A type's reading. -/
def rdF (ty : Int) : RdF := fun B I v l => match readM ty I l with
  | .error (k, s) => .er k s
  | .ok (I', S, d) => .ok (RdP B v l I' S d)
theorem rdF_at {ty : Int} {B : Nat} {I : IV} {v : Value} {l : List UInt8} {P : IV → World → Prop} (h : rdF ty B I v l = .ok P) : ∃ I' S d, P = RdP B v l I' S d := by
  unfold rdF at h
  split at h
  · cases h
  · rename_i I' S d _
    cases h
    exact ⟨I', S, d, rfl⟩
theorem rdF_kept (ty : Int) : ∀ B I v l P, rdF ty B I v l = .ok P → ∀ J W W' b, b < B → P J W → Kb b W W' → P J W' := by
  intro B I v l P h J W W' b hb hp hk
  obtain ⟨I', S, d, rfl⟩ := rdF_at h
  obtain ⟨h1, h2, h3⟩ := hp
  exact ⟨h1, h2.kb hb hk, h3⟩
theorem rdF_one (ty : Int) : ∀ B I v l P, rdF ty B I v l = .ok P → ∀ J W, P J W → J.sv.oneCell' = true ∧ J.dv.oneCell' = true := by
  intro B I v l P h J W hp
  obtain ⟨I', S, d, rfl⟩ := rdF_at h
  obtain ⟨h1, h2, h3⟩ := hp
  exact ⟨h2.one, h3.one⟩
/-- A type whose reader does what it says. -/
def Reads (ty : Int) : Prop := (∀ args W, (callFunc (layM ty).rd args).run Tryd.prog W = .ok (.enter (layM ty).rd args) W) ∧
  ∀ (st : Int) p I a n c l W, Ib W p I → I.ty = ty → I.st = st ∧ I.sv = .slice none 0 0 ∧ I.dv = .slice none 0 0 → Sl W a n c l → n ≤ 20000000 → (∀ q, a = some q → 0 < n → q.block ≠ p) → Calls Tryd.prog (layM ty).rd #[.pointer (some ⟨p, 0, none⟩), .slice a n c] W (ReadPost p (rdF ty W.heap.size I (.slice a n c) l) W)
theorem said_reads (ty fl st : Int) (pa : Option Addr) (pn pc : Nat) (l : List UInt8) (w : World) (hp : Sl w pa pn pc l) (hn : pn ≤ 20000000) (hty : (Lit.int .i64 ty).wf = true) (hpb : ∀ q, pa = some q → 0 < pn → q.block < w.heap.size) (hr : Reads ty) :
    Calls Tryd.prog 40 #[frV ty fl st pa pn pc] w (SaidPost pa (ahead ty fl st l) (rdF ty) w) :=
  said_any ty fl st pa pn pc l w hp hn hty (rdF ty) hpb hr.1 (hr.2 st) (rdF_kept ty) (rdF_one ty)
/-- The readers of data. -/
theorem data_reads (ty : Int) (hd : (layM ty).rd = 79) (hm : ∀ I l, readM ty I l = .ok (I, [], l)) : Reads ty := by
  refine ⟨fun args W => by rw [hd]; kernel_rfl, fun st p I a n c l W hI hty hst hs hn hne => ?_⟩
  rw [hd]
  refine (readData_any p I a n c W hI).mono ?_
  rintro e w' ⟨hk, J, rfl, hJ, rfl⟩
  refine ⟨hk, ?_⟩
  unfold rdF
  rw [hm]
  refine ⟨_, rfl, hJ, rfl, ?_, Or.inr (Or.inl ⟨rfl, rfl, _, _, _, rfl⟩)⟩
  rw [hst.2.1]
  exact SOwn.nil _ _
theorem data0_reads : Reads 0 := data_reads 0 rfl fun _ _ => rfl
theorem window_reads : Reads 8 := by
  refine ⟨fun args W => by kernel_rfl, fun st p I a n c l W hI hty hst hs hn hne => ?_⟩
  have hl := hs.len
  refine (readWindow_any p I a n c l W hI hs).mono ?_
  rintro e w' ⟨hk, hm⟩
  refine ⟨hk, ?_⟩
  unfold rdF
  rw [show readM 8 I l = (if l.length ≠ 4 then .error (6, 0) else if numB l % 2147483648 = 0 then .error (1, I.st) else .ok ({ I with ic := (numB l % 2147483648 : Nat) }, [], [])) from rfl, hl]
  by_cases h4 : n ≠ 4
  · rw [if_pos h4] at hm ⊢
    exact hm
  · rw [if_neg h4] at hm ⊢
    by_cases h0 : numB l % 2147483648 = 0
    · rw [if_pos h0] at hm ⊢
      exact hm
    · rw [if_neg h0] at hm ⊢
      obtain ⟨J, rfl, hJ, rfl⟩ := hm
      refine ⟨_, rfl, hJ, rfl, ?_, Or.inl ⟨?_, rfl⟩⟩
      · show SOwn _ _ I.sv _
        rw [hst.2.1]
        exact SOwn.nil _ _
      · exact hst.2.2
end Go.Proofs.YtefdkbdblocikaaDoor
