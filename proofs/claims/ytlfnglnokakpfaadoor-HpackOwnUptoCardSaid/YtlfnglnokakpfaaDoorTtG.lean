/-
  CONTRACTS: the table that stands.
-/
import Derived.Test.YtlfnglnokakpfaaDoorTtL
namespace Go.Proofs.YtlfnglnokakpfaaDoor.Tt
open Go.RowKit

/-- The table that stands, from 0 on. -/
def standL : List Hd := [(⟨#[58, 97, 117, 116, 104, 111, 114, 105, 116, 121]⟩, ⟨#[]⟩), (⟨#[58, 109, 101, 116, 104, 111, 100]⟩, ⟨#[71, 69, 84]⟩), (⟨#[58, 109, 101, 116, 104, 111, 100]⟩, ⟨#[80, 79, 83, 84]⟩), (⟨#[58, 112, 97, 116, 104]⟩, ⟨#[47]⟩), (⟨#[58, 112, 97, 116, 104]⟩, ⟨#[47, 105, 110, 100, 101, 120, 46, 104, 116, 109, 108]⟩), (⟨#[58, 115, 99, 104, 101, 109, 101]⟩, ⟨#[104, 116, 116, 112]⟩), (⟨#[58, 115, 99, 104, 101, 109, 101]⟩, ⟨#[104, 116, 116, 112, 115]⟩), (⟨#[58, 115, 116, 97, 116, 117, 115]⟩, ⟨#[50, 48, 48]⟩), (⟨#[58, 115, 116, 97, 116, 117, 115]⟩, ⟨#[50, 48, 52]⟩), (⟨#[58, 115, 116, 97, 116, 117, 115]⟩, ⟨#[50, 48, 54]⟩), (⟨#[58, 115, 116, 97, 116, 117, 115]⟩, ⟨#[51, 48, 52]⟩), (⟨#[58, 115, 116, 97, 116, 117, 115]⟩, ⟨#[52, 48, 48]⟩), (⟨#[58, 115, 116, 97, 116, 117, 115]⟩, ⟨#[52, 48, 52]⟩), (⟨#[58, 115, 116, 97, 116, 117, 115]⟩, ⟨#[53, 48, 48]⟩), (⟨#[97, 99, 99, 101, 112, 116, 45, 99, 104, 97, 114, 115, 101, 116]⟩, ⟨#[]⟩), (⟨#[97, 99, 99, 101, 112, 116, 45, 101, 110, 99, 111, 100, 105, 110, 103]⟩, ⟨#[103, 122, 105, 112, 44, 32, 100, 101, 102, 108, 97, 116, 101]⟩), (⟨#[97, 99, 99, 101, 112, 116, 45, 108, 97, 110, 103, 117, 97, 103, 101]⟩, ⟨#[]⟩), (⟨#[97, 99, 99, 101, 112, 116, 45, 114, 97, 110, 103, 101, 115]⟩, ⟨#[]⟩), (⟨#[97, 99, 99, 101, 112, 116]⟩, ⟨#[]⟩), (⟨#[97, 99, 99, 101, 115, 115, 45, 99, 111, 110, 116, 114, 111, 108, 45, 97, 108, 108, 111, 119, 45, 111, 114, 105, 103, 105, 110]⟩, ⟨#[]⟩), (⟨#[97, 103, 101]⟩, ⟨#[]⟩), (⟨#[97, 108, 108, 111, 119]⟩, ⟨#[]⟩), (⟨#[97, 117, 116, 104, 111, 114, 105, 122, 97, 116, 105, 111, 110]⟩, ⟨#[]⟩), (⟨#[99, 97, 99, 104, 101, 45, 99, 111, 110, 116, 114, 111, 108]⟩, ⟨#[]⟩), (⟨#[99, 111, 110, 116, 101, 110, 116, 45, 100, 105, 115, 112, 111, 115, 105, 116, 105, 111, 110]⟩, ⟨#[]⟩), (⟨#[99, 111, 110, 116, 101, 110, 116, 45, 101, 110, 99, 111, 100, 105, 110, 103]⟩, ⟨#[]⟩), (⟨#[99, 111, 110, 116, 101, 110, 116, 45, 108, 97, 110, 103, 117, 97, 103, 101]⟩, ⟨#[]⟩), (⟨#[99, 111, 110, 116, 101, 110, 116, 45, 108, 101, 110, 103, 116, 104]⟩, ⟨#[]⟩), (⟨#[99, 111, 110, 116, 101, 110, 116, 45, 108, 111, 99, 97, 116, 105, 111, 110]⟩, ⟨#[]⟩), (⟨#[99, 111, 110, 116, 101, 110, 116, 45, 114, 97, 110, 103, 101]⟩, ⟨#[]⟩), (⟨#[99, 111, 110, 116, 101, 110, 116, 45, 116, 121, 112, 101]⟩, ⟨#[]⟩), (⟨#[99, 111, 111, 107, 105, 101]⟩, ⟨#[]⟩), (⟨#[100, 97, 116, 101]⟩, ⟨#[]⟩), (⟨#[101, 116, 97, 103]⟩, ⟨#[]⟩), (⟨#[101, 120, 112, 101, 99, 116]⟩, ⟨#[]⟩), (⟨#[101, 120, 112, 105, 114, 101, 115]⟩, ⟨#[]⟩), (⟨#[102, 114, 111, 109]⟩, ⟨#[]⟩), (⟨#[104, 111, 115, 116]⟩, ⟨#[]⟩), (⟨#[105, 102, 45, 109, 97, 116, 99, 104]⟩, ⟨#[]⟩), (⟨#[105, 102, 45, 109, 111, 100, 105, 102, 105, 101, 100, 45, 115, 105, 110, 99, 101]⟩, ⟨#[]⟩), (⟨#[105, 102, 45, 110, 111, 110, 101, 45, 109, 97, 116, 99, 104]⟩, ⟨#[]⟩), (⟨#[105, 102, 45, 114, 97, 110, 103, 101]⟩, ⟨#[]⟩), (⟨#[105, 102, 45, 117, 110, 109, 111, 100, 105, 102, 105, 101, 100, 45, 115, 105, 110, 99, 101]⟩, ⟨#[]⟩), (⟨#[108, 97, 115, 116, 45, 109, 111, 100, 105, 102, 105, 101, 100]⟩, ⟨#[]⟩), (⟨#[108, 105, 110, 107]⟩, ⟨#[]⟩), (⟨#[108, 111, 99, 97, 116, 105, 111, 110]⟩, ⟨#[]⟩), (⟨#[109, 97, 120, 45, 102, 111, 114, 119, 97, 114, 100, 115]⟩, ⟨#[]⟩), (⟨#[112, 114, 111, 120, 121, 45, 97, 117, 116, 104, 101, 110, 116, 105, 99, 97, 116, 101]⟩, ⟨#[]⟩), (⟨#[112, 114, 111, 120, 121, 45, 97, 117, 116, 104, 111, 114, 105, 122, 97, 116, 105, 111, 110]⟩, ⟨#[]⟩), (⟨#[114, 97, 110, 103, 101]⟩, ⟨#[]⟩), (⟨#[114, 101, 102, 101, 114, 101, 114]⟩, ⟨#[]⟩), (⟨#[114, 101, 102, 114, 101, 115, 104]⟩, ⟨#[]⟩), (⟨#[114, 101, 116, 114, 121, 45, 97, 102, 116, 101, 114]⟩, ⟨#[]⟩), (⟨#[115, 101, 114, 118, 101, 114]⟩, ⟨#[]⟩), (⟨#[115, 101, 116, 45, 99, 111, 111, 107, 105, 101]⟩, ⟨#[]⟩), (⟨#[115, 116, 114, 105, 99, 116, 45, 116, 114, 97, 110, 115, 112, 111, 114, 116, 45, 115, 101, 99, 117, 114, 105, 116, 121]⟩, ⟨#[]⟩), (⟨#[116, 114, 97, 110, 115, 102, 101, 114, 45, 101, 110, 99, 111, 100, 105, 110, 103]⟩, ⟨#[]⟩), (⟨#[117, 115, 101, 114, 45, 97, 103, 101, 110, 116]⟩, ⟨#[]⟩), (⟨#[118, 97, 114, 121]⟩, ⟨#[]⟩), (⟨#[118, 105, 97]⟩, ⟨#[]⟩), (⟨#[119, 119, 119, 45, 97, 117, 116, 104, 101, 110, 116, 105, 99, 97, 116, 101]⟩, ⟨#[]⟩)]
theorem standL_len : standL.length = 61 := by decide +kernel
def standC : Array Value := ((standL.map fun h => [Value.string h.1, Value.string h.2, Value.bool false]).flatten).toArray
theorem standC_len : standC.size = 183 := by decide +kernel
theorem standC_one : standC.all (·.oneCell') = true := by kernel_rfl
theorem info_stand : (Tryd.prog.info? 174).map (·.size) = some standC.size := by kernel_rfl
theorem info_stand2 : (Tryd.prog.info? 174).map (·.size) = some standC.toList.length := by kernel_rfl
def zc65 : Array Value := ((List.replicate 61 [Value.string ⟨#[]⟩, .string ⟨#[]⟩, .bool false]).flatten).toArray
theorem zc65_size : zc65.size = 183 := by decide +kernel
theorem zc65_value (w : World) : (zeroValue 174).run Tryd.prog w = .ok (.agg zc65) w := by kernel_rfl
/-- An operation that yields a value and leaves the world alone. -/
theorem wpList_val {P : Program} {ops : Array Oper} {rest : List Oper} {o : Oper} {a : Act} {w : World} {Q : Exit → Act → World → Prop} (hg : o.guard = none) (v : Value) (h : (execOp a.eval o).run P w = .ok (.value v) w) (hk : wpList P ops Q rest (a.put o.dst v) w) :
    wpList P ops Q (o :: rest) a w :=
  wpList_plain hg fun K hK => by
    unfold Oper.wp
    rw [h]
    exact hK _ _ hk
theorem frame_any {p : Act → Prop} {a : Act} (v : Value) (h0 : a.tmps.getD 0 undef = v) (hd : a.defers = []) (h : ∀ A : Act, A.tmps.getD 0 undef = v → A.defers = [] → p A) : p a := h a h0 hd
theorem res_stand {tmps : Array Value} (w : World) {b : Nat} (hr : w.rangeAt b 0 standC.toList) (ht : tmps.getD 0 undef = .pointer (some ⟨b, 0, none⟩)) : (results Tryd.f109 tmps).run Tryd.prog w = .ok (.agg standC) w := by
  have hp' : tmps[0]?.getD undef = .pointer (some ⟨b, 0, none⟩) := by simpa using ht
  simp [results, Tryd.results109, hp', asAddr, run_loadVar_mid w b 0 174 standC.toList (.array _ _) hr Tryd.underlying174 rfl info_stand2]
theorem below_setCells {B b : Nat} (hb : B ≤ b) : ∀ (vs : List Value) (o : Nat) {w w' : World}, Below B w w' → Below B w (w'.setCells b o vs)
  | [], _, _, _, h => h
  | v :: vs, o, _, _, h => below_setCells hb vs (o + 1) (h.setCell (p := ⟨b, o, none⟩) hb v)
theorem there_new (w : World) : (w.alloc (.cells zc65 174)).there w.heap.size 0 standC.size := by
  intro j hj
  rw [standC_len] at hj
  have hz := zc65_size
  constructor
  · simp [hz, hj]
  · simp
set_option maxRecDepth 100000 in
set_option maxHeartbeats 1000000 in
theorem stand_any (w : World) : Calls Tryd.prog 109 #[] w fun e w' => e = .returned (.agg standC) ∧ Below w.heap.size w w' := by
  have hz := fun W => zc65_value W
  have hs := zc65_size
  have ht := there_new w
  go_enter Tryd.func109, Tryd.ntmps109
  go_upto_region 1 with fail
  generalize hW : w.alloc (.cells zc65 174) = W at ht ⊢
  refine wp_region_lit ?_
  refine wpList_val rfl (hdV (⟨#[58, 97, 117, 116, 104, 111, 114, 105, 116, 121]⟩, ⟨#[]⟩)) (by kernel_rfl) ?_
  refine wpList_val rfl (hdV (⟨#[58, 109, 101, 116, 104, 111, 100]⟩, ⟨#[71, 69, 84]⟩)) (by kernel_rfl) ?_
  refine wpList_val rfl (hdV (⟨#[58, 109, 101, 116, 104, 111, 100]⟩, ⟨#[80, 79, 83, 84]⟩)) (by kernel_rfl) ?_
  refine wpList_val rfl (hdV (⟨#[58, 112, 97, 116, 104]⟩, ⟨#[47]⟩)) (by kernel_rfl) ?_
  refine wpList_val rfl (hdV (⟨#[58, 112, 97, 116, 104]⟩, ⟨#[47, 105, 110, 100, 101, 120, 46, 104, 116, 109, 108]⟩)) (by kernel_rfl) ?_
  refine wpList_val rfl (hdV (⟨#[58, 115, 99, 104, 101, 109, 101]⟩, ⟨#[104, 116, 116, 112]⟩)) (by kernel_rfl) ?_
  refine wpList_val rfl (hdV (⟨#[58, 115, 99, 104, 101, 109, 101]⟩, ⟨#[104, 116, 116, 112, 115]⟩)) (by kernel_rfl) ?_
  refine wpList_val rfl (hdV (⟨#[58, 115, 116, 97, 116, 117, 115]⟩, ⟨#[50, 48, 48]⟩)) (by kernel_rfl) ?_
  refine wpList_val rfl (hdV (⟨#[58, 115, 116, 97, 116, 117, 115]⟩, ⟨#[50, 48, 52]⟩)) (by kernel_rfl) ?_
  refine wpList_val rfl (hdV (⟨#[58, 115, 116, 97, 116, 117, 115]⟩, ⟨#[50, 48, 54]⟩)) (by kernel_rfl) ?_
  refine wpList_val rfl (hdV (⟨#[58, 115, 116, 97, 116, 117, 115]⟩, ⟨#[51, 48, 52]⟩)) (by kernel_rfl) ?_
  refine wpList_val rfl (hdV (⟨#[58, 115, 116, 97, 116, 117, 115]⟩, ⟨#[52, 48, 48]⟩)) (by kernel_rfl) ?_
  refine wpList_val rfl (hdV (⟨#[58, 115, 116, 97, 116, 117, 115]⟩, ⟨#[52, 48, 52]⟩)) (by kernel_rfl) ?_
  refine wpList_val rfl (hdV (⟨#[58, 115, 116, 97, 116, 117, 115]⟩, ⟨#[53, 48, 48]⟩)) (by kernel_rfl) ?_
  refine wpList_val rfl (hdV (⟨#[97, 99, 99, 101, 112, 116, 45, 99, 104, 97, 114, 115, 101, 116]⟩, ⟨#[]⟩)) (by kernel_rfl) ?_
  refine wpList_val rfl (hdV (⟨#[97, 99, 99, 101, 112, 116, 45, 101, 110, 99, 111, 100, 105, 110, 103]⟩, ⟨#[103, 122, 105, 112, 44, 32, 100, 101, 102, 108, 97, 116, 101]⟩)) (by kernel_rfl) ?_
  refine wpList_val rfl (hdV (⟨#[97, 99, 99, 101, 112, 116, 45, 108, 97, 110, 103, 117, 97, 103, 101]⟩, ⟨#[]⟩)) (by kernel_rfl) ?_
  refine wpList_val rfl (hdV (⟨#[97, 99, 99, 101, 112, 116, 45, 114, 97, 110, 103, 101, 115]⟩, ⟨#[]⟩)) (by kernel_rfl) ?_
  refine wpList_val rfl (hdV (⟨#[97, 99, 99, 101, 112, 116]⟩, ⟨#[]⟩)) (by kernel_rfl) ?_
  refine wpList_val rfl (hdV (⟨#[97, 99, 99, 101, 115, 115, 45, 99, 111, 110, 116, 114, 111, 108, 45, 97, 108, 108, 111, 119, 45, 111, 114, 105, 103, 105, 110]⟩, ⟨#[]⟩)) (by kernel_rfl) ?_
  refine wpList_val rfl (hdV (⟨#[97, 103, 101]⟩, ⟨#[]⟩)) (by kernel_rfl) ?_
  refine wpList_val rfl (hdV (⟨#[97, 108, 108, 111, 119]⟩, ⟨#[]⟩)) (by kernel_rfl) ?_
  refine wpList_val rfl (hdV (⟨#[97, 117, 116, 104, 111, 114, 105, 122, 97, 116, 105, 111, 110]⟩, ⟨#[]⟩)) (by kernel_rfl) ?_
  refine wpList_val rfl (hdV (⟨#[99, 97, 99, 104, 101, 45, 99, 111, 110, 116, 114, 111, 108]⟩, ⟨#[]⟩)) (by kernel_rfl) ?_
  refine wpList_val rfl (hdV (⟨#[99, 111, 110, 116, 101, 110, 116, 45, 100, 105, 115, 112, 111, 115, 105, 116, 105, 111, 110]⟩, ⟨#[]⟩)) (by kernel_rfl) ?_
  refine wpList_val rfl (hdV (⟨#[99, 111, 110, 116, 101, 110, 116, 45, 101, 110, 99, 111, 100, 105, 110, 103]⟩, ⟨#[]⟩)) (by kernel_rfl) ?_
  refine wpList_val rfl (hdV (⟨#[99, 111, 110, 116, 101, 110, 116, 45, 108, 97, 110, 103, 117, 97, 103, 101]⟩, ⟨#[]⟩)) (by kernel_rfl) ?_
  refine wpList_val rfl (hdV (⟨#[99, 111, 110, 116, 101, 110, 116, 45, 108, 101, 110, 103, 116, 104]⟩, ⟨#[]⟩)) (by kernel_rfl) ?_
  refine wpList_val rfl (hdV (⟨#[99, 111, 110, 116, 101, 110, 116, 45, 108, 111, 99, 97, 116, 105, 111, 110]⟩, ⟨#[]⟩)) (by kernel_rfl) ?_
  refine wpList_val rfl (hdV (⟨#[99, 111, 110, 116, 101, 110, 116, 45, 114, 97, 110, 103, 101]⟩, ⟨#[]⟩)) (by kernel_rfl) ?_
  refine wpList_val rfl (hdV (⟨#[99, 111, 110, 116, 101, 110, 116, 45, 116, 121, 112, 101]⟩, ⟨#[]⟩)) (by kernel_rfl) ?_
  refine wpList_val rfl (hdV (⟨#[99, 111, 111, 107, 105, 101]⟩, ⟨#[]⟩)) (by kernel_rfl) ?_
  refine wpList_val rfl (hdV (⟨#[100, 97, 116, 101]⟩, ⟨#[]⟩)) (by kernel_rfl) ?_
  refine wpList_val rfl (hdV (⟨#[101, 116, 97, 103]⟩, ⟨#[]⟩)) (by kernel_rfl) ?_
  refine wpList_val rfl (hdV (⟨#[101, 120, 112, 101, 99, 116]⟩, ⟨#[]⟩)) (by kernel_rfl) ?_
  refine wpList_val rfl (hdV (⟨#[101, 120, 112, 105, 114, 101, 115]⟩, ⟨#[]⟩)) (by kernel_rfl) ?_
  refine wpList_val rfl (hdV (⟨#[102, 114, 111, 109]⟩, ⟨#[]⟩)) (by kernel_rfl) ?_
  refine wpList_val rfl (hdV (⟨#[104, 111, 115, 116]⟩, ⟨#[]⟩)) (by kernel_rfl) ?_
  refine wpList_val rfl (hdV (⟨#[105, 102, 45, 109, 97, 116, 99, 104]⟩, ⟨#[]⟩)) (by kernel_rfl) ?_
  refine wpList_val rfl (hdV (⟨#[105, 102, 45, 109, 111, 100, 105, 102, 105, 101, 100, 45, 115, 105, 110, 99, 101]⟩, ⟨#[]⟩)) (by kernel_rfl) ?_
  refine wpList_val rfl (hdV (⟨#[105, 102, 45, 110, 111, 110, 101, 45, 109, 97, 116, 99, 104]⟩, ⟨#[]⟩)) (by kernel_rfl) ?_
  refine wpList_val rfl (hdV (⟨#[105, 102, 45, 114, 97, 110, 103, 101]⟩, ⟨#[]⟩)) (by kernel_rfl) ?_
  refine wpList_val rfl (hdV (⟨#[105, 102, 45, 117, 110, 109, 111, 100, 105, 102, 105, 101, 100, 45, 115, 105, 110, 99, 101]⟩, ⟨#[]⟩)) (by kernel_rfl) ?_
  refine wpList_val rfl (hdV (⟨#[108, 97, 115, 116, 45, 109, 111, 100, 105, 102, 105, 101, 100]⟩, ⟨#[]⟩)) (by kernel_rfl) ?_
  refine wpList_val rfl (hdV (⟨#[108, 105, 110, 107]⟩, ⟨#[]⟩)) (by kernel_rfl) ?_
  refine wpList_val rfl (hdV (⟨#[108, 111, 99, 97, 116, 105, 111, 110]⟩, ⟨#[]⟩)) (by kernel_rfl) ?_
  refine wpList_val rfl (hdV (⟨#[109, 97, 120, 45, 102, 111, 114, 119, 97, 114, 100, 115]⟩, ⟨#[]⟩)) (by kernel_rfl) ?_
  refine wpList_val rfl (hdV (⟨#[112, 114, 111, 120, 121, 45, 97, 117, 116, 104, 101, 110, 116, 105, 99, 97, 116, 101]⟩, ⟨#[]⟩)) (by kernel_rfl) ?_
  refine wpList_val rfl (hdV (⟨#[112, 114, 111, 120, 121, 45, 97, 117, 116, 104, 111, 114, 105, 122, 97, 116, 105, 111, 110]⟩, ⟨#[]⟩)) (by kernel_rfl) ?_
  refine wpList_val rfl (hdV (⟨#[114, 97, 110, 103, 101]⟩, ⟨#[]⟩)) (by kernel_rfl) ?_
  refine wpList_val rfl (hdV (⟨#[114, 101, 102, 101, 114, 101, 114]⟩, ⟨#[]⟩)) (by kernel_rfl) ?_
  refine wpList_val rfl (hdV (⟨#[114, 101, 102, 114, 101, 115, 104]⟩, ⟨#[]⟩)) (by kernel_rfl) ?_
  refine wpList_val rfl (hdV (⟨#[114, 101, 116, 114, 121, 45, 97, 102, 116, 101, 114]⟩, ⟨#[]⟩)) (by kernel_rfl) ?_
  refine wpList_val rfl (hdV (⟨#[115, 101, 114, 118, 101, 114]⟩, ⟨#[]⟩)) (by kernel_rfl) ?_
  refine wpList_val rfl (hdV (⟨#[115, 101, 116, 45, 99, 111, 111, 107, 105, 101]⟩, ⟨#[]⟩)) (by kernel_rfl) ?_
  refine wpList_val rfl (hdV (⟨#[115, 116, 114, 105, 99, 116, 45, 116, 114, 97, 110, 115, 112, 111, 114, 116, 45, 115, 101, 99, 117, 114, 105, 116, 121]⟩, ⟨#[]⟩)) (by kernel_rfl) ?_
  refine wpList_val rfl (hdV (⟨#[116, 114, 97, 110, 115, 102, 101, 114, 45, 101, 110, 99, 111, 100, 105, 110, 103]⟩, ⟨#[]⟩)) (by kernel_rfl) ?_
  refine wpList_val rfl (hdV (⟨#[117, 115, 101, 114, 45, 97, 103, 101, 110, 116]⟩, ⟨#[]⟩)) (by kernel_rfl) ?_
  refine wpList_val rfl (hdV (⟨#[118, 97, 114, 121]⟩, ⟨#[]⟩)) (by kernel_rfl) ?_
  refine wpList_val rfl (hdV (⟨#[118, 105, 97]⟩, ⟨#[]⟩)) (by kernel_rfl) ?_
  refine wpList_val rfl (hdV (⟨#[119, 119, 119, 45, 97, 117, 116, 104, 101, 110, 116, 105, 99, 97, 116, 101]⟩, ⟨#[]⟩)) (by kernel_rfl) ?_
  refine wpList_val rfl (.agg standC) (by kernel_rfl) ?_
  refine wpList_store_mid rfl 174 _ _ rfl w.heap.size 0 standC (by kernel_rfl) (by kernel_rfl) ht info_stand standC_one ?_
  have hr := World.rangeAt_setCells_same W w.heap.size 0 standC.toList (by simpa using ht)
  refine wpList_nil ?_
  have hB : Below w.heap.size w (W.setCells w.heap.size 0 standC.toList) := below_setCells (Nat.le_refl _) _ _ (by rw [← hW]; exact (Below.refl _ _).alloc (Nat.le_refl _) _)
  refine frame_any (p := fun A => Exit.then _ _ Exit.normal A _) (.pointer (some ⟨w.heap.size, 0, none⟩)) (by kernel_rfl) (by kernel_rfl) ?_
  intro A hA hD
  generalize W.setCells w.heap.size 0 standC.toList = W2 at hr hB ⊢
  have HA := Lib.hid hA
  have HD := Lib.hid hD
  clear hA hD hz hs ht hW
  go_wp2_with fail
  exact bodyPost_ret (v := .agg standC) (res_stand _ hr HA.out) HD.out ⟨rfl, hB⟩
end Go.Proofs.YtlfnglnokakpfaaDoor.Tt
