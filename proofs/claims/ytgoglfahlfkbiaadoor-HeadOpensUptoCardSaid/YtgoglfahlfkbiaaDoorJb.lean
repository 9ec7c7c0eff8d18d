/-
  CONTRACTS: the headers with a colon are taken: the walk.
-/
import Derived.Test.YtgoglfahlfkbiaaDoorJ
namespace Go.Proofs.YtgoglfahlfkbiaaDoor
open Go.RowKit Tt

theorem kp_below {r p : Nat} {w w' : World} (h : Kp r w w') (hp : p ≤ r) (hz : p ≤ w.heap.size) : Below p w w' := ⟨h.os, h.tape, h.output, h.size, fun k hk => h.block k (by omega) (by omega)⟩
theorem trail_ya (a : Option Addr) (n c : Nat) (L : List Hn) (ev : Value) (w : World) (hs : Ns w a n c L) (hm : Sm L) (hE : w.cell? ⟨0, 0, none⟩ = some ev) (h : trailB L = true) :
    Calls Tryd.prog 15 #[.slice a n c] w fun e w' => e = .returned .nilIface ∧ Below w.heap.size w w' := (trail_any a n c L ev w hs hm hE).mono fun e w' k => ⟨by rw [k.1, if_pos h], k.2⟩
theorem trail_na (a : Option Addr) (n c : Nat) (L : List Hn) (ev : Value) (w : World) (hs : Ns w a n c L) (hm : Sm L) (hE : w.cell? ⟨0, 0, none⟩ = some ev) (h : trailB L = false) :
    Calls Tryd.prog 15 #[.slice a n c] w fun e w' => e = .returned ev ∧ Below w.heap.size w w' := (trail_any a n c L ev w hs hm hE).mono fun e w' k => ⟨by rw [k.1, h]; rfl, k.2⟩
set_option maxRecDepth 100000 in
set_option maxHeartbeats 4000000 in
theorem open_gen {σ : Type} (D : σ → DataW Value) (okv : σ → ByteArray → ByteArray → Bool) (st : σ → ByteArray → ByteArray → σ) (BoxI : σ → World → Prop) (mb r : Nat) (w0 : World) (K : Keeps D okv st BoxI w0.heap.size mb r) (S0 : σ) (L : List Hn)
    (a : Option Addr) (n c : Nat) (hs : Ns w0 a n c L) (hm : Sm L) (w : World) (hb : Below w0.heap.size w0 w) (hmap : w.ownsMap Tryd.prog 9 fnR mb 8 (D S0)) (hbox : BoxI S0 w) (ea : Addr)
    (hE : w0.cell? ⟨0, 0, none⟩ = some (.iface 148 (.pointer (some ea)))) :
    Calls Tryd.prog 34 #[.map (some mb), .slice a n c] w (GPost D okv st BoxI w0 S0 L) := by
  have HE := Lib.hid hE
  have hge := cell_lt hE
  simp only at hge
  have HK := Lib.hid K
  have h0 : GRel D okv st BoxI mb w0 S0 L (.slice a n c) w := ⟨S0, a, n, c, L, rfl, hs, hm, rfl, hmap, hbox, hb⟩
  clear hE K hs hm hb hmap hbox
  go_enter Tryd.func34, Tryd.ntmps34
  go_wp2_with fail
  go_loopw [1] (fun s1 wr => GRel D okv st BoxI mb w0 S0 L s1 wr) (fun s1 _ => lenOf s1)
  case atStart => exact h0
  case round =>
    clear h0
    obtain ⟨S, a, n, c, M, rfl, hs, hm, htk, hmap, hbox, hb⟩ := hrel
    have HS := Lib.hid hs
    have HM := Lib.hid hm
    have HTK := Lib.hid htk
    have HMAP := Lib.hid hmap
    have HBX := Lib.hid hbox
    have HB := Lib.hid hb
    have hz := hb.size
    have hlen := hs.len
    have hle := hs.le
    have hmx := hs.max
    unfold maxLen at hmx
    have hE1 := (hb.cell (p := ⟨0, 0, none⟩) hge).trans HE.out
    clear hm htk hmap hbox hE1
    cases M with
    | nil =>
      simp at hlen
      subst hlen
      have HF : Hid (takeG D okv st S0 L = some (S, [])) := Lib.hid (HTK.out.trans rfl)
      clear hs hb
      cases htb : trailB [] with
      | true =>
        have HTB := Lib.hid htb
        have HT := Lib.hid (fun W (hW : Below w0.heap.size w0 W) => trail_ya a 0 c [] _ W (HS.out.kept hW) HM.out ((hW.cell (p := ⟨0, 0, none⟩) hge).trans HE.out) HTB.out)
        clear htb
        go_wp2_with fail
        go_region_with (first | (refine (HT.out _ (by repeat (first | (with_reducible exact HB.out) | (with_reducible refine Below.drew ?_)))).mono ?_; rintro e w2 ⟨rfl, hb2⟩; (have HB2 := Lib.hid hb2); clear hb2; go_simp))
        all_goals go_wp2_with fail
        all_goals go_ret2
        all_goals unfold GPost
        all_goals rw [HF.out]
        all_goals refine ⟨HB.out.drew.trans (HB2.out.mono (by simp; omega)), a, 0, c, by rw [HTB.out]; rfl, HS.out, ?_⟩
        all_goals exact HK.out.box S wr w2 HBX.out fun g _ h2 _ => HB2.out.block g h2
      | false =>
        have HTB := Lib.hid htb
        have HT := Lib.hid (fun W (hW : Below w0.heap.size w0 W) => trail_na a 0 c [] _ W (HS.out.kept hW) HM.out ((hW.cell (p := ⟨0, 0, none⟩) hge).trans HE.out) HTB.out)
        clear htb
        go_wp2_with fail
        go_region_with (first | (refine (HT.out _ (by repeat (first | (with_reducible exact HB.out) | (with_reducible refine Below.drew ?_)))).mono ?_; rintro e w2 ⟨rfl, hb2⟩; (have HB2 := Lib.hid hb2); clear hb2; go_simp))
        all_goals go_wp2_with fail
        all_goals go_ret2
        all_goals unfold GPost
        all_goals rw [HF.out]
        all_goals refine ⟨HB.out.drew.trans (HB2.out.mono (by simp; omega)), a, 0, c, by rw [HTB.out]; rfl, HS.out, ?_⟩
        all_goals exact HK.out.box S wr w2 HBX.out fun g _ h2 _ => HB2.out.block g h2
    | cons C T =>
      obtain ⟨⟨x, v⟩, nv⟩ := C
      obtain ⟨b, o, ha, d0, d1, _⟩ := hs.row 0 (by simp)
      subst ha
      simp only [Nat.zero_mul, Nat.add_zero, List.getElem_cons_zero] at d0 d1
      have hbl := cell_lt d0
      simp only at hbl
      have c0 := (hb.cell (p := ⟨b, o, none⟩) hbl).trans d0
      have c1 := (hb.cell (p := ⟨b, o + 1, none⟩) hbl).trans d1
      obtain ⟨hx, hv⟩ := HM.out 0 (by simp)
      simp only [List.getElem_cons_zero] at hx hv
      simp only [List.length_cons] at hlen
      have hn1 : 1 ≤ n := by omega
      have hnI : (0 : Int) < (n : Int) := by omega
      have HPX := Lib.hid (fun W => prefix_any x 58 W)
      have HSL := Lib.hid (fun W => slice_n1 (some ⟨b, o, none⟩) n c hn1 W)
      have D0 := Lib.hid d0
      have D1 := Lib.hid d1
      clear hs hb d0 d1
      cases hp : pre1 58 x with
      | false =>
        have HF : Hid (takeG D okv st S0 L = some (S, ((x, v), nv) :: T)) := Lib.hid (HTK.out.trans (by rw [takeG, if_neg (by rw [hp]; decide)]))
        rw [hp] at HPX
        clear hp c1 hlen
        cases htb : trailB (((x, v), nv) :: T) with
        | true =>
          have HTB := Lib.hid htb
          have HT := Lib.hid (fun W (hW : Below w0.heap.size w0 W) => trail_ya (some ⟨b, o, none⟩) n c (((x, v), nv) :: T) _ W (HS.out.kept hW) HM.out ((hW.cell (p := ⟨0, 0, none⟩) hge).trans HE.out) HTB.out)
          clear htb
          go_wp2_with fail
          refine (HPX.out _).mono ?_
          rintro e w' ⟨rfl, rfl⟩
          go_wp2_with fail
          go_region_with (first | (refine (HT.out _ (by repeat (first | (with_reducible exact HB.out) | (with_reducible refine Below.drew ?_)))).mono ?_; rintro e w2 ⟨rfl, hb2⟩; (have HB2 := Lib.hid hb2); clear hb2; go_simp))
          all_goals go_wp2_with fail
          all_goals go_ret2
          all_goals unfold GPost
          all_goals rw [HF.out]
          all_goals refine ⟨HB.out.drew.trans (HB2.out.mono (by simp; omega)), some ⟨b, o, none⟩, n, c, by rw [HTB.out]; rfl, HS.out, ?_⟩
          all_goals exact HK.out.box S wr w2 HBX.out fun g _ h2 _ => HB2.out.block g h2
        | false =>
          have HTB := Lib.hid htb
          have HT := Lib.hid (fun W (hW : Below w0.heap.size w0 W) => trail_na (some ⟨b, o, none⟩) n c (((x, v), nv) :: T) _ W (HS.out.kept hW) HM.out ((hW.cell (p := ⟨0, 0, none⟩) hge).trans HE.out) HTB.out)
          clear htb
          go_wp2_with fail
          refine (HPX.out _).mono ?_
          rintro e w' ⟨rfl, rfl⟩
          go_wp2_with fail
          go_region_with (first | (refine (HT.out _ (by repeat (first | (with_reducible exact HB.out) | (with_reducible refine Below.drew ?_)))).mono ?_; rintro e w2 ⟨rfl, hb2⟩; (have HB2 := Lib.hid hb2); clear hb2; go_simp))
          all_goals go_wp2_with fail
          all_goals go_ret2
          all_goals unfold GPost
          all_goals rw [HF.out]
          all_goals refine ⟨HB.out.drew.trans (HB2.out.mono (by simp; omega)), some ⟨b, o, none⟩, n, c, by rw [HTB.out]; rfl, HS.out, ?_⟩
          all_goals exact HK.out.box S wr w2 HBX.out fun g _ h2 _ => HB2.out.block g h2
      | true =>
        rw [hp] at HPX
        have HTG : Hid (takeG D okv st S (((x, v), nv) :: T) = if kn (D S) x = true ∧ valueB v = true ∧ okv S x v = true then takeG D okv st (st S x v) T else none) := Lib.hid (by rw [takeG, if_pos hp])
        clear hp
        cases hk : kn (D S) x with
        | false =>
          have hlk := look_unknown HMAP.out x (by unfold maxLen; omega) hk
          have HF : Hid (takeG D okv st S0 L = none) := Lib.hid (HTK.out.trans (HTG.out.trans (if_neg (by rw [hk]; simp))))
          clear hk c1 hlen
          go_wp2_with fail
          refine (HPX.out _).mono ?_
          rintro e w' ⟨rfl, rfl⟩
          go_wp2_with fail
          go_ret2
          unfold GPost
          rw [HF.out]
          exact ⟨HB.out, rfl⟩
        | true =>
          obtain ⟨F, q, hat, hcf, hkeep⟩ := HK.out.fn S x hk
          have hlk := look_known HMAP.out x (by unfold maxLen; omega) hk _ hat
          have HKE := Lib.hid hkeep
          have HDL := Lib.hid (HK.out.del S x v hk)
          have HV := Lib.hid (fun W => value_any v W hv)
          have HKN := Lib.hid hk
          clear hk hat hkeep
          cases hvb : valueB v with
          | false =>
            rw [hvb] at HV
            have HF : Hid (takeG D okv st S0 L = none) := Lib.hid (HTK.out.trans (HTG.out.trans (if_neg (by rw [hvb]; simp))))
            clear hvb hlen
            go_wp2_with fail
            refine (HPX.out _).mono ?_
            rintro e w' ⟨rfl, rfl⟩
            go_wp2_with fail
            refine (HV.out _).mono ?_
            rintro e w1 ⟨rfl, hb1⟩
            have HB1 := Lib.hid (HB.out.trans (hb1.mono hz))
            clear hb1 c0 c1
            go_wp2_with fail
            go_ret2
            unfold GPost
            rw [HF.out]
            exact ⟨HB1.out, rfl⟩
          | true =>
            rw [hvb] at HV
            have HVB := Lib.hid hvb
            clear hvb
            go_wp2_with fail
            refine (HPX.out _).mono ?_
            rintro e w' ⟨rfl, rfl⟩
            go_wp2_with fail
            refine (HV.out _).mono ?_
            rintro e w1 ⟨rfl, hb1⟩
            have HB1 := Lib.hid (HB.out.trans (hb1.mono hz))
            have HX1 := Lib.hid (HK.out.box S wr w1 HBX.out fun g _ h2 _ => hb1.block g h2)
            have hml := map_lt HMAP.out
            have HM1 := Lib.hid (map_kept HMAP.out (hb1.block mb hml))
            clear c0 c1 hlk
            have c0 := (HB1.out.cell (p := ⟨b, o, none⟩) hbl).trans D0.out
            have c1 := (HB1.out.cell (p := ⟨b, o + 1, none⟩) hbl).trans D1.out
            have HC := Lib.hid (HKE.out v w1 HX1.out hv)
            have hz1 := HB1.out.size
            clear hb1
            cases hok : okv S x v with
            | false =>
              rw [hok] at HC
              have HF : Hid (takeG D okv st S0 L = none) := Lib.hid (HTK.out.trans (HTG.out.trans (if_neg (by rw [hok]; simp))))
              clear hok hlen
              go_wp2_with fail
              refine HC.out.mono ?_
              rintro e w2 ⟨rfl, hk2, _⟩
              have HB2 := Lib.hid (HB1.out.trans (kp_below hk2 HK.out.pr hz1))
              clear hk2
              go_wp2_with fail
              go_ret2
              unfold GPost
              rw [HF.out]
              exact ⟨HB2.out, rfl⟩
            | true =>
              rw [hok] at HC
              have HF : Hid (takeG D okv st S0 L = takeG D okv st (st S x v) T) := Lib.hid (HTK.out.trans (HTG.out.trans (if_pos ⟨HKN.out, HVB.out, hok⟩)))
              clear hok
              go_wp2_with fail
              refine HC.out.mono ?_
              rintro e w2 ⟨rfl, hk2, hx2⟩
              have HB2 := Lib.hid (HB1.out.trans (kp_below hk2 HK.out.pr hz1))
              have HM2 := Lib.hid (map_kept HM1.out (hk2.block mb (map_lt HM1.out) HK.out.ne))
              have HX2 := Lib.hid hx2
              clear c0 c1 hk2 hx2
              have c0 := (HB2.out.cell (p := ⟨b, o, none⟩) hbl).trans D0.out
              have c1 := (HB2.out.cell (p := ⟨b, o + 1, none⟩) hbl).trans D1.out
              have hsl := HSL.out
              have hkey := Go.WideMaps.keyOf_string_mk (P := Tryd.prog) Tryd.underlying9 (s := x) (by unfold maxLen; omega)
              have HKY := Lib.hid hkey
              have HOWN : Hid (∀ w3, w3.ownsMap Tryd.prog 9 fnR mb 8 ((D S).del (.string x.data.toList)) → w2.mapTurned w3 mb → GRel D okv st BoxI mb w0 S0 L (.slice (partN (some ⟨b, o, none⟩) c 1) (n - 1) (c - 1)) w3) := Lib.hid fun w3 h3 ht => by
                have hg := ht.grown
                refine ⟨st S x v, _, _, _, T, rfl, ns_part HS.out 1 hn1, sm_drop HM.out 1, HF.out, ?_, ?_, ?_⟩
                · rw [HDL.out]
                  exact h3
                · exact HK.out.box _ w2 w3 HX2.out fun g _ h2 h4 => hg.block g h2 (fun e => h4 (Option.some.inj e))
                · exact HB2.out.grown hg HB2.out.size (fun k e => by
                    have : mb = k := Option.some.inj e
                    have := HK.out.pm
                    omega)
              clear hkey
              go_wp2_with (refine wpList_delete_own _ rfl _ _ 70 9 rfl 55 (Maps.string_keyed Tryd.underlying9) Tryd.underlying70 fnR mb 8 (D S) rfl HM2.out (.string x) (.string x.data.toList) rfl HKY.out ?_; intro w3 hown3 hturn3; (have HR3 := Lib.hid (HOWN.out w3 hown3 hturn3)); clear hown3 hturn3)
              go_roundw
              case rel => first | exact HR3.out | (repeat apply Exists.intro); exact ⟨HR3.out, rfl⟩
              case measure => simp [lenOf]; omega
end Go.Proofs.YtgoglfahlfkbiaaDoor
