/- SpanPoints: the law returns true for all arguments, without any condition. -/
import Derived.Test.YtdennlekjndfkaaOpen
import Derived.Test.YtdennlekjndfkaaMath11
import Derived.Test.YtdennlekjndfkaaLawTidy
import Derived.Test.YtdennlekjndfkaaCommon
import Derived.Deep.RegionHeld3
import Derived.Deep.AppendLies
namespace Go.Proofs.Ytdennlekjndfkaa.spanPoints
open Go.ChangeShapes Go.WideShapes Go.ChangeAt Go.RowKit

/-- A slice of ints of the call's own. -/
def OwnI (w : World) (B : Nat) (v : Value) (ts : List Int) : Prop := w.ownsRow B 3 1 v ts.length (ts.map (Value.int .i64))
theorem infoInt : (Try.prog.info? 3).map (fun i => (i.zero, i.size, i.bytes)) = some (some (.int .i64 0), 1, 8) := by kernel_rfl
theorem four_new (w : World) (a b c d : Value) (t : TypeId) : ∀ j u, [a, b, c, d][j]? = some u → (w.alloc (.cells #[a, b, c, d] t)).cell? ((⟨w.heap.size, 0, none⟩ : Addr).add j) = some u := by
  intro j u hj
  match j, hj with
  | 0, hj => simp at hj; subst hj; simp [Addr.add]
  | 1, hj => simp at hj; subst hj; simp [Addr.add]
  | 2, hj => simp at hj; subst hj; simp [Addr.add]
  | 3, hj => simp at hj; subst hj; simp [Addr.add]
  | j + 4, hj => simp at hj
theorem bestTidy {l : List Sp} (h : Best l) : ∀ i (h : i + 1 < l.length), (l[i]'(by omega)).2 + 1 < l[i + 1].1 := fun i hi =>
  List.pairwise_iff_getElem.1 h.1.2 i (i + 1) (by omega) hi (by omega)
theorem tidyB (p : Option Addr) (cap : Nat) (l : List Sp) (w : World) (B : Nat) (hl : SpAt w B p l) (h : Best l) :
    Calls Try.prog 30 #[.slice p l.length cap] w fun e w' => e = .returned (.bool true) ∧ Below w.heap.size w w' :=
  lawTidy_any p cap l w B hl h.2.2 h.2.1 (bestTidy h)
theorem keepI {W0 wc w9 : World} {g k : Nat} {t : Value} (h : wc.cell? ⟨g, k, none⟩ = some t ∧ Hid (Below W0.heap.size W0 wc)) (hb9 : Below wc.heap.size wc w9) :
    w9.cell? ⟨g, k, none⟩ = some t ∧ Hid (Below W0.heap.size W0 w9) :=
  ⟨(hb9.cell (p := ⟨g, k, none⟩) (World.block_lt_of_cell? _ ⟨g, k, none⟩ h.1)).trans h.1, h.2.out.trans (hb9.mono h.2.out.size)⟩

theorem keepD {W0 wr : World} {g k : Nat} {t : Value} (h : wr.cell? ⟨g, k, none⟩ = some t) (hb : Below W0.heap.size W0 wr) : wr.drew.cell? ⟨g, k, none⟩ = some t ∧ Hid (Below W0.heap.size W0 wr.drew) := ⟨h, hb.drew⟩
theorem heldI {W0 wc : World} {g k : Nat} {t : Value} (h : wc.cell? ⟨g, k, none⟩ = some t ∧ Hid (Below W0.heap.size W0 wc)) : Below W0.heap.size W0 wc := h.2.out
theorem OwnI.reads {w : World} {B : Nat} {v : Value} {ts : List Int} (h : OwnI w B v ts) :
    ∃ p cap, v = .slice p ts.length cap ∧ ∀ i (hi : i < ts.length), ∃ g, p = some ⟨g, 0, none⟩ ∧ w.cell? ⟨g, i, none⟩ = some (.int .i64 ts[i]) := by
  have h0 := h
  obtain ⟨h1, ⟨hv, hn⟩ | ⟨g, cap, cur, hv, hB, hg, hc, hm, hs, ht⟩⟩ := h
  · exact ⟨none, 0, by rw [hn]; exact hv, fun i hi => by omega⟩
  · subst hv
    refine ⟨_, cap, rfl, fun i hi => ⟨g, rfl, ?_⟩⟩
    have h0' : w.ownsRow B 3 1 (.slice (some ⟨g, 0, none⟩) ts.length cap) ts.length (ts.map (Value.int .i64)) := h0
    rw [h0'.cellAt i (by omega), List.getElem?_map, List.getElem?_eq_getElem hi]
    rfl

set_option maxRecDepth 100000 in
set_option maxHeartbeats 20000000 in
theorem walk (w : World) (p : Option Addr) (c1 : Nat) (a : List Sp) (ha : SpAt w 0 p a) (np : p = none → c1 = 0) (q : Option Addr) (c2 : Nat) (b : List Sp) (hb : SpAt w 0 q b) (nq : q = none → c2 = 0) (t : Int) (_ : (Lit.int .i64 t).wf = true) :
    Calls Try.prog 6 #[.slice p a.length c1, .slice q b.length c2, .int .i64 t] w fun e w' => e = .returned (.bool true) ∧ Below w.heap.size w w' := by
  have hla := ha.len
  have hlb := hb.len
  have HA := Lib.hid ha
  have HBb := Lib.hid hb
  have NP := Lib.hid np
  have NQ := Lib.hid nq
  clear ha hb np nq
  by_cases hf : a.length ≤ 24 ∧ b.length ≤ 24
  · have HF : Hid ((decide (a.length ≤ 24) && decide (b.length ≤ 24)) = true) := by show _ = _; simp [hf.1, hf.2]
    obtain ⟨hfa, hfb⟩ := hf
    have HN := Lib.hid (And.intro hfa hfb)
    clear hfa hfb
    go_enter Try.func6, Try.ntmps6
    go_wp2_with fail
    refine (sane_any w).mono ?_
    rintro e w1 ⟨rfl, hb⟩
    have HB1 := Lib.hid hb
    clear hb
    go_wp2_with fail
    refine (few_any p q a.length b.length c1 c2 hla hlb _).mono ?_
    rw [HF.out]
    rintro e w1' ⟨rfl, rfl⟩
    go_wp2_with fail
    refine (set_any p c1 a _ _ (HA.out.below HB1.out)).mono ?_
    rintro e w2 hr
    obtain ⟨ps, cs, rfl, hs, _, hb⟩ := hr.res
    have HB2 := Lib.hid (HB1.out.trans (hb.mono HB1.out.size))
    have HS := Lib.hid hs
    clear hs hb hr
    go_wp2_with fail
    refine (union_any p q c1 c2 a b _ _ _ (HA.out.below HB2.out) (HBb.out.below HB2.out) NP.out NQ.out).mono ?_
    rintro e w3 hr
    obtain ⟨pu, cu, rfl, hs, _, hb⟩ := hr.res
    have HB3 := Lib.hid (HB2.out.trans (hb.mono HB2.out.size))
    have HS := Lib.hid (HS.out.below hb)
    have HU := Lib.hid hs
    clear hs hb hr
    go_wp2_with fail
    refine (meet_any p q c1 c2 a b _ _ _ (HA.out.below HB3.out) (HBb.out.below HB3.out)).mono ?_
    rintro e w4 hr
    obtain ⟨pm, cm, rfl, hs, _, hb⟩ := hr.res
    have HB4 := Lib.hid (HB3.out.trans (hb.mono HB3.out.size))
    have HS := Lib.hid (HS.out.below hb)
    have HU := Lib.hid (HU.out.below hb)
    have HM := Lib.hid hs
    clear hs hb hr
    have HBAD := Lib.hid (points_bad (a := a) (b := b) HN.out.1 HN.out.2)
    have HOK := Lib.hid (points_ok (a := a) (b := b))
    generalize hE1 : errL a = E1 at *
    have HE1 := Lib.hid hE1
    clear hE1
    generalize setS a = S at *
    generalize unionE a b = E2 at *
    generalize unionS a b = U at *
    generalize meetE a b = E3 at *
    generalize meetS a b = M at *
    by_cases g1 : E1 ≠ 0
    · have g1' : (E1 != 0) = true := by simpa using g1
      have g1'' : (E1 == 0) = false := by simpa using g1
      obtain ⟨k1, rfl, rfl, rfl⟩ := HBAD.out (fun h => g1 h.1)
      obtain rfl : S = [] := k1.resolve_left g1
      clear k1 HBAD HOK
      go_wp2_with fail
      go_ret
      exact ⟨rfl, HB4.out⟩
    obtain rfl : E1 = 0 := by omega
    clear g1
    by_cases g2 : E2 ≠ 0
    · have g2' : (E2 != 0) = true := by simpa using g2
      obtain ⟨_, rfl, rfl, rfl⟩ := HBAD.out (fun h => g2 h.2.1)
      clear HBAD HOK
      go_wp2_with fail
      go_ret
      exact ⟨rfl, HB4.out⟩
    obtain rfl : E2 = 0 := by omega
    clear g2
    by_cases g3 : E3 ≠ 0
    · obtain ⟨_, h0, _⟩ := HBAD.out (fun h => g3 h.2.2)
      exact absurd h0.symm g3
    obtain rfl : E3 = 0 := by omega
    clear g3 HBAD
    obtain ⟨hmem, hbs, hbu, hbm, heb⟩ := HOK.out rfl rfl rfl
    have HMEM := Lib.hid hmem
    have HBS := Lib.hid hbs
    have HBU := Lib.hid hbu
    have HBM := Lib.hid hbm
    have HOA := Lib.hid (errL_all HE1.out).2
    have HOB := Lib.hid (errL_all heb).2
    have HA := Lib.hid (HA.out.below HB4.out)
    have HBb := Lib.hid (HBb.out.below HB4.out)
    clear hmem hbs hbu hbm heb HOK HE1 NP NQ HB1 HB2 HB3 HF
    have hna := HN.out.1
    have hnb := HN.out.2
    obtain ⟨i0, hi, hz0, hz1, hz2⟩ := info_parts infoInt
    go_wp2_with fail
    go_loopw [13, 14] (fun v i wr => ∃ (k : Nat) (ts : List Int), k ≤ a.length ∧ i = .int .i64 k ∧ ts.length ≤ 1 + 4 * k ∧ OwnI wr w4.heap.size v ts ∧ Hid (Below w4.heap.size w4 wr)) (fun _ i _ => a.length - (intOf i).toNat)
    case atStart => exact ⟨0, [t], Nat.zero_le _, rfl, by simp, World.ownsRow_lit w4 #[.int .i64 t] 1 (Nat.le_refl _) (by decide) rfl, (Below.refl _ _).alloc (Nat.le_refl _) _⟩
    case round =>
      obtain ⟨k, ts, hk, rfl, hts, hown, HB⟩ := hrel
      by_cases hlt : k < a.length
      · obtain ⟨bb, off, hpp, _, hbs, hc⟩ := HA.out.at' (by intro h; simp [h] at hlt)
        subst hpp
        obtain ⟨d1, d2⟩ := hc k hlt
        have HX := Lib.hid ((okSp_iff _).1 (HOA.out _ (List.getElem_mem hlt)))
        have d1 := (HB.out.cell (p := ⟨bb, off + k * 2, none⟩) hbs).trans d1
        have d2 := (HB.out.cell (p := ⟨bb, off + k * 2 + 1, none⟩) hbs).trans d2
        clear hc
        generalize a[k] = x at *
        have hbr : bb < wr.heap.size := Nat.lt_of_lt_of_le hbs HB.out.size
        have hsz := HB.out.size
        go_wp2_with fail
        have i1 : IntKind.i64.wrap (x.1 - 1) = x.1 - 1 := by have := HX.out; rw [IntKind.wrap_i64]; omega
        have i2 : IntKind.i64.wrap (x.2 + 1) = x.2 + 1 := by have := HX.out; rw [IntKind.wrap_i64]; omega
        have i3 : (k : Int) < (a.length : Int) := by omega
        have i4 : (0 : Int) ≤ (k : Int) := by omega
        go_region_held3 (fun w' => w'.cell? ⟨bb, off + k * 2, none⟩ = some (.int .i64 x.1) ∧ w'.cell? ⟨bb, off + k * 2 + 1, none⟩ = some (.int .i64 x.2)) (first | go_keep | exact ⟨hgrow.cell (later3 hbr d1) (fun e => by have := (hown.lt bb e.symm).1; omega), hgrow.cell (later3 hbr d2) (fun e => by have := (hown.lt bb e.symm).1; omega)⟩)
          (first
            | (refine step_append_lies _ rfl _ _ 39 rfl w4.heap.size 3 i0 _ 1 8 Try.underlying39 hi hz0 hz1 hz2 rfl (by decide) _ ts.length (ts.map (Value.int .i64)) rfl (by first | exact World.ownsRow.alloc (w := wr.drew) ⟨hown.1, hown.2⟩ _ | exact World.ownsRow.alloc hown _) ⟨wr.heap.size, 0, none⟩ 4 _ [.int .i64 x.1, .int .i64 x.2, .int .i64 (x.1 - 1), .int .i64 (x.2 + 1)] rfl rfl (four_new wr _ _ _ _ _) (by simp [Value.oneCell']) (by decide) (by unfold maxLen; omega) (by omega) (by simp; omega) _ rfl ?_; intro g cap w5 hown5 hgrow hat hlt5))
        have HB5 := Lib.hid ((HB.out.alloc HB.out.size (.cells #[.int .i64 x.1, .int .i64 x.2, .int .i64 (x.1 - 1), .int .i64 (x.2 + 1)] 3)).drew.grown hgrow (by simp; omega) (fun k hk => (hown.lt k hk).1))
        go_wp2_with fail
        go_roundw
        case rel =>
          refine ⟨k + 1, ts ++ [x.1, x.2, x.1 - 1, x.2 + 1], by omega, by go_num, by simp; omega, ?_, HB5.out⟩
          show World.ownsRow _ _ _ _ _ _ _
          rw [List.length_append, List.map_append]
          exact hown5
        case measure => simp [intOf]; omega
      · have hkk : k = a.length := by omega
        have HT := Lib.hid (show ts.length ≤ 97 by omega)
        clear hts hkk
        go_wp2_with fail
        go_loopw [13, 15] (fun v i wr => ∃ (k : Nat) (ts : List Int), k ≤ b.length ∧ i = .int .i64 k ∧ ts.length ≤ 97 + 4 * k ∧ OwnI wr w4.heap.size v ts ∧ Hid (Below w4.heap.size w4 wr)) (fun _ i _ => b.length - (intOf i).toNat)
        case atStart => exact ⟨0, ts, Nat.zero_le _, rfl, by have := HT.out; omega, hown, HB.out⟩
        case round =>
          obtain ⟨k, ts, hk, rfl, hts, hown, HB⟩ := hrel
          by_cases hlt : k < b.length
          · obtain ⟨bb, off, hpp, _, hbs, hc⟩ := HBb.out.at' (by intro h; simp [h] at hlt)
            subst hpp
            obtain ⟨d1, d2⟩ := hc k hlt
            have HX := Lib.hid ((okSp_iff _).1 (HOB.out _ (List.getElem_mem hlt)))
            have d1 := (HB.out.cell (p := ⟨bb, off + k * 2, none⟩) hbs).trans d1
            have d2 := (HB.out.cell (p := ⟨bb, off + k * 2 + 1, none⟩) hbs).trans d2
            clear hc
            generalize b[k] = x at *
            have hbr : bb < wr.heap.size := Nat.lt_of_lt_of_le hbs HB.out.size
            have hsz := HB.out.size
            go_wp2_with fail
            have i1 : IntKind.i64.wrap (x.1 - 1) = x.1 - 1 := by have := HX.out; rw [IntKind.wrap_i64]; omega
            have i2 : IntKind.i64.wrap (x.2 + 1) = x.2 + 1 := by have := HX.out; rw [IntKind.wrap_i64]; omega
            have i3 : (k : Int) < (b.length : Int) := by omega
            have i4 : (0 : Int) ≤ (k : Int) := by omega
            go_region_held3 (fun w' => w'.cell? ⟨bb, off + k * 2, none⟩ = some (.int .i64 x.1) ∧ w'.cell? ⟨bb, off + k * 2 + 1, none⟩ = some (.int .i64 x.2)) (first | go_keep | exact ⟨hgrow.cell (later3 hbr d1) (fun e => by have := (hown.lt bb e.symm).1; omega), hgrow.cell (later3 hbr d2) (fun e => by have := (hown.lt bb e.symm).1; omega)⟩)
              (first
                | (refine step_append_lies _ rfl _ _ 39 rfl w4.heap.size 3 i0 _ 1 8 Try.underlying39 hi hz0 hz1 hz2 rfl (by decide) _ ts.length (ts.map (Value.int .i64)) rfl (by first | exact World.ownsRow.alloc (w := wr.drew) ⟨hown.1, hown.2⟩ _ | exact World.ownsRow.alloc hown _) ⟨wr.heap.size, 0, none⟩ 4 _ [.int .i64 x.1, .int .i64 x.2, .int .i64 (x.1 - 1), .int .i64 (x.2 + 1)] rfl rfl (four_new wr _ _ _ _ _) (by simp [Value.oneCell']) (by decide) (by unfold maxLen; omega) (by omega) (by simp; omega) _ rfl ?_; intro g cap w5 hown5 hgrow hat hlt5))
            have HB5 := Lib.hid ((HB.out.alloc HB.out.size (.cells #[.int .i64 x.1, .int .i64 x.2, .int .i64 (x.1 - 1), .int .i64 (x.2 + 1)] 3)).drew.grown hgrow (by simp; omega) (fun k hk => (hown.lt k hk).1))
            go_wp2_with fail
            go_roundw
            case rel =>
              refine ⟨k + 1, ts ++ [x.1, x.2, x.1 - 1, x.2 + 1], by omega, by go_num, by simp; omega, ?_, HB5.out⟩
              show World.ownsRow _ _ _ _ _ _ _
              rw [List.length_append, List.map_append]
              exact hown5
            case measure => simp [intOf]; omega
          · have hkk : k = b.length := by omega
            have HT := Lib.hid (show ts.length ≤ 193 by omega)
            clear hts hkk
            go_wp2_with fail
            obtain ⟨W0, hW0⟩ : ∃ W0, W0 = wr := ⟨_, rfl⟩
            subst hW0
            obtain ⟨pt, ct, rfl, hrd⟩ := hown.reads
            have HRD := Lib.hid hrd
            have HA0 := Lib.hid (HA.out.below HB.out)
            have HBb0 := Lib.hid (HBb.out.below HB.out)
            have HS0 := Lib.hid (HS.out.below HB.out)
            have HU0 := Lib.hid (HU.out.below HB.out)
            have HM0 := Lib.hid (HM.out.below HB.out)
            have HTL := Lib.hid HT.out
            have htl : ts.length ≤ 193 := HT.out
            clear hrd hown HT HA HBb HS HU HM
            go_loopw [16] (fun i wr => ∃ k, k ≤ ts.length ∧ i = .int .i64 (k : Nat) ∧ Hid (Below W0.heap.size W0 wr)) (fun i _ => ts.length - (intOf i).toNat)
            case atStart => exact ⟨0, Nat.zero_le _, rfl, Below.refl _ _⟩
            case round =>
              obtain ⟨k, hk, rfl, HB9⟩ := hrel
              by_cases hlt3 : k < ts.length
              · obtain ⟨g, hpp, hcell⟩ := HRD.out k hlt3
                subst hpp
                have hcell0 := (HB9.out.cell (p := ⟨g, k, none⟩) (World.block_lt_of_cell? _ ⟨g, k, none⟩ hcell)).trans hcell
                have hm := HMEM.out ts[k]
                generalize ts[k] = tm at *
                have HI1 := Lib.hid hm.1
                have HI2 := Lib.hid hm.2.1
                have HI3 := Lib.hid hm.2.2
                clear hm hcell
                generalize hx : inS a tm = X at *
                generalize hy : inS b tm = Y at *
                have HX := Lib.hid hx
                have HY := Lib.hid hy
                clear hx hy
                have j1 : (k : Int) < (ts.length : Int) := by omega
                have j2 : (0 : Int) ≤ (k : Int) := by omega
                go_wp2_with fail
                go_region_held3 (fun w' => w'.cell? ⟨g, k, none⟩ = some (.int .i64 tm) ∧ Hid (Below W0.heap.size W0 w')) (first | exact keepD hcell0 HB9.out | exact keepI (by assumption) hb9 | assumption | go_keep)
                  (first
                    | (go_at_call 21; with_reducible refine (in_any p c1 a tm _ _ (HA0.out.below (heldI (by assumption)))).mono ?_; rw [HX.out]; rintro e w9 ⟨rfl, hb9⟩)
                    | (go_at_call 21; with_reducible refine (in_any q c2 b tm _ _ (HBb0.out.below (heldI (by assumption)))).mono ?_; rw [HY.out]; rintro e w9 ⟨rfl, hb9⟩))
                obtain ⟨d9, HB10⟩ := ‹_ ∧ Hid (Below W0.heap.size W0 _)›
                clear hcell0 hb9
                cases X <;> cases Y
                · go_wp2_with fail
                  refine (in_any ps cs S tm _ _ (HS0.out.below HB10.out)).mono ?_
                  rw [show inS S tm = false from HI1.out]
                  rintro e w10 ⟨rfl, hb⟩
                  obtain ⟨d9, HB10⟩ := keepI ⟨d9, HB10⟩ hb
                  clear hb
                  go_wp2_with fail
                  refine (in_any pu cu U tm _ _ (HU0.out.below HB10.out)).mono ?_
                  rw [show inS U tm = false from HI2.out]
                  rintro e w10 ⟨rfl, hb⟩
                  obtain ⟨d9, HB10⟩ := keepI ⟨d9, HB10⟩ hb
                  clear hb
                  go_wp2_with fail
                  refine (in_any pm cm M tm _ _ (HM0.out.below HB10.out)).mono ?_
                  rw [show inS M tm = false from HI3.out]
                  rintro e w10 ⟨rfl, hb⟩
                  obtain ⟨d9, HB10⟩ := keepI ⟨d9, HB10⟩ hb
                  clear hb
                  go_wp2_with fail
                  go_roundw
                  case rel => exact ⟨k + 1, by omega, by go_num, HB10.out⟩
                  case measure => simp [intOf]; omega
                · go_wp2_with fail
                  refine (in_any ps cs S tm _ _ (HS0.out.below HB10.out)).mono ?_
                  rw [show inS S tm = false from HI1.out]
                  rintro e w10 ⟨rfl, hb⟩
                  obtain ⟨d9, HB10⟩ := keepI ⟨d9, HB10⟩ hb
                  clear hb
                  go_wp2_with fail
                  refine (in_any pu cu U tm _ _ (HU0.out.below HB10.out)).mono ?_
                  rw [show inS U tm = true from HI2.out]
                  rintro e w10 ⟨rfl, hb⟩
                  obtain ⟨d9, HB10⟩ := keepI ⟨d9, HB10⟩ hb
                  clear hb
                  go_wp2_with fail
                  refine (in_any pm cm M tm _ _ (HM0.out.below HB10.out)).mono ?_
                  rw [show inS M tm = false from HI3.out]
                  rintro e w10 ⟨rfl, hb⟩
                  obtain ⟨d9, HB10⟩ := keepI ⟨d9, HB10⟩ hb
                  clear hb
                  go_wp2_with fail
                  go_roundw
                  case rel => exact ⟨k + 1, by omega, by go_num, HB10.out⟩
                  case measure => simp [intOf]; omega
                · go_wp2_with fail
                  refine (in_any ps cs S tm _ _ (HS0.out.below HB10.out)).mono ?_
                  rw [show inS S tm = true from HI1.out]
                  rintro e w10 ⟨rfl, hb⟩
                  obtain ⟨d9, HB10⟩ := keepI ⟨d9, HB10⟩ hb
                  clear hb
                  go_wp2_with fail
                  refine (in_any pu cu U tm _ _ (HU0.out.below HB10.out)).mono ?_
                  rw [show inS U tm = true from HI2.out]
                  rintro e w10 ⟨rfl, hb⟩
                  obtain ⟨d9, HB10⟩ := keepI ⟨d9, HB10⟩ hb
                  clear hb
                  go_wp2_with fail
                  refine (in_any pm cm M tm _ _ (HM0.out.below HB10.out)).mono ?_
                  rw [show inS M tm = false from HI3.out]
                  rintro e w10 ⟨rfl, hb⟩
                  obtain ⟨d9, HB10⟩ := keepI ⟨d9, HB10⟩ hb
                  clear hb
                  go_wp2_with fail
                  go_roundw
                  case rel => exact ⟨k + 1, by omega, by go_num, HB10.out⟩
                  case measure => simp [intOf]; omega
                · go_wp2_with fail
                  refine (in_any ps cs S tm _ _ (HS0.out.below HB10.out)).mono ?_
                  rw [show inS S tm = true from HI1.out]
                  rintro e w10 ⟨rfl, hb⟩
                  obtain ⟨d9, HB10⟩ := keepI ⟨d9, HB10⟩ hb
                  clear hb
                  go_wp2_with fail
                  refine (in_any pu cu U tm _ _ (HU0.out.below HB10.out)).mono ?_
                  rw [show inS U tm = true from HI2.out]
                  rintro e w10 ⟨rfl, hb⟩
                  obtain ⟨d9, HB10⟩ := keepI ⟨d9, HB10⟩ hb
                  clear hb
                  go_wp2_with fail
                  refine (in_any pm cm M tm _ _ (HM0.out.below HB10.out)).mono ?_
                  rw [show inS M tm = true from HI3.out]
                  rintro e w10 ⟨rfl, hb⟩
                  obtain ⟨d9, HB10⟩ := keepI ⟨d9, HB10⟩ hb
                  clear hb
                  go_wp2_with fail
                  go_roundw
                  case rel => exact ⟨k + 1, by omega, by go_num, HB10.out⟩
                  case measure => simp [intOf]; omega
              · clear HRD
                go_wp2_with fail
                refine (tidyB ps cs S _ _ (HS0.out.below HB9.out) HBS.out).mono ?_
                rintro e w11 ⟨rfl, hb⟩
                have HB11 := Lib.hid (HB9.out.trans (hb.mono HB9.out.size))
                clear hb
                go_wp2_with fail
                refine (tidyB pu cu U _ _ (HU0.out.below HB11.out) HBU.out).mono ?_
                rintro e w12 ⟨rfl, hb⟩
                have HB12 := Lib.hid (HB11.out.trans (hb.mono HB11.out.size))
                clear hb
                go_wp2_with fail
                refine (tidyB pm cm M _ _ (HM0.out.below HB12.out) HBM.out).mono ?_
                rintro e w13 ⟨rfl, hb⟩
                have HB13 := Lib.hid (HB12.out.trans (hb.mono HB12.out.size))
                clear hb
                go_wp2_with fail
                go_ret
                exact ⟨rfl, HB4.out.trans ((HB.out.trans (HB13.out.mono HB.out.size)).mono HB4.out.size)⟩
  · have HF : Hid ((decide (a.length ≤ 24) && decide (b.length ≤ 24)) = false) := by
      show _ = _
      rw [Bool.and_eq_false_iff, decide_eq_false_iff_not, decide_eq_false_iff_not]; omega
    clear hf
    go_enter Try.func6, Try.ntmps6
    go_wp2_with fail
    refine (sane_any w).mono ?_
    rintro e w1 ⟨rfl, hb⟩
    have HB1 := Lib.hid hb
    clear hb
    go_wp2_with fail
    refine (few_any p q a.length b.length c1 c2 hla hlb _).mono ?_
    rw [HF.out]
    rintro e w1' ⟨rfl, rfl⟩
    go_wp2_with fail
    go_ret
    exact ⟨rfl, HB1.out⟩


set_option maxHeartbeats 1000000 in
set_option maxRecDepth 100000 in
theorem lifted (os : Os) (started : os.Started) (H : Type) (enc : TypeId × Value → H) :
    ReturnsInHanded {} Try.checked os 6 .any (Rows.spanPointsSpec.pre6 enc Try.prog Try.f6 Rows.spanPointsRow.domain false) (Rows.spanPointsSpec.post enc Try.prog Try.f6 false true false false) := by
  refine returnsInHanded_of_change_sized (C := Try.checked) own' started (by kernel_rfl) Try.func6
    (ChangeSpec.witness6 (enc := enc) (C := Try.checked) false ⟨#[], #[.slice none 0 0, .slice none 0 0, .int .i64 0], []⟩ 8 (by kernel_rfl) (by kernel_rfl) (by kernel_rfl) (by kernel_rfl)) ?_
  intro W base args ds gs before hval0 hW _ hsz0 _
  have hsz : (DataW.weightsEach Try.prog (Try.f6.params.toList ++ Rows.spanPointsSpec.plain.varTypes Try.prog) (ds ++ gs)).all (· ≤ reachBytes) = true := hsz0
  clear hsz0
  have hval : ∀ (j : Nat) t v, Try.f6.params[j]? = some t → args[j]? = some v → Value.okWide Try.prog W .any base t v := hval0
  have hW' := hW
  obtain ⟨p, q, hA0, hV, rfl, _, _⟩ := hW
  have hA : DataW.TrodAll enc Try.prog W 0 (fun _ => true) true Try.f6.params.toList args.toList ds p := hA0
  rw [Try.params6] at hA hval hsz
  obtain ⟨v0, v1, v2, d0, d1, d2, p0, p1, p2, rfl, rfl, rfl, h0, h1, h2⟩ := trodAll_three hA
  obtain ⟨rfl, rfl⟩ := trodVars_none hV
  have h0k := h0
  have h1k := h1
  have h2k := h2
  obtain ⟨r0, c0, l0, rfl, s0, n0⟩ := open_spans (hval 0 24 v0 rfl rfl) h0 (fun elems spare e => by
    have := sized_slice hsz (j := 0) (t := 24) (e := 23) rfl (by rw [e]; rfl) Try.underlying24
    rwa [bytesSp] at this)
  obtain ⟨r1, c1, l1, rfl, s1, n1⟩ := open_spans (hval 1 24 v1 rfl rfl) h1 (fun elems spare e => by
    have := sized_slice hsz (j := 1) (t := 24) (e := 23) rfl (by rw [e]; rfl) Try.underlying24
    rwa [bytesSp] at this)
  obtain ⟨x2, rfl, rfl, rfl, w2⟩ := open_int Try.underlying3 (hval 2 3 v2 rfl rfl) h2
  clear hA0 hval0
  simp only [List.append_nil] at hW'
  have lt0 : ∀ y ∈ p0, y.block < W.heap.size := fun y hy => by simpa using hW'.lt y (by simp [hy])
  have lt1 : ∀ y ∈ p1, y.block < W.heap.size := fun y hy => by simpa using hW'.lt y (by simp [hy])
  refine (walk W r0 c0 l0 s0 n0 r1 c1 l1 s1 n1 x2 w2).mono fun e W' ⟨he, hn⟩ => ?_
  subst he
  exact ⟨_, rfl, _, _, _, [], _, [], hW', trodAll_mk1 (shut_bool Try.underlying4 _), trodAll_mk3 (Below.trod laidOut (by kernel_rfl) (of_decide_eq_true (by kernel_rfl)) h0k hn lt0) (Below.trod laidOut (by kernel_rfl) (of_decide_eq_true (by kernel_rfl)) h1k hn lt1) (Below.trod laidOut (by kernel_rfl) (of_decide_eq_true (by kernel_rfl)) h2k hn (fun y hy => by cases hy)), rfl, hn.frame _, fun h => by cases h⟩

theorem over : Rows.spanPointsRow.holds Try.pinned (OpenSpec.ofChange Rows.spanPointsSpec) :=
  OpenClaim.holds_of_wide 6 Try.f6 rfl rfl rfl rfl rfl rfl rfl ⟨rfl, rfl, rfl, rfl, rfl⟩ rfl rfl rfl rfl rfl (by kernel_rfl) Try.func6 (by kernel_rfl)
    (of_decide_eq_true (by kernel_rfl)) (by unfold Func.isWrapper; first | (rw [if_pos (by decide +kernel)]; kernel_rfl) | (rw [if_neg (by decide +kernel)]; exact ⟨rfl, rfl⟩))
    (fun os started H enc _ => lifted os started H enc)

theorem proved : Rows.SpanPointsSaid := over
#print axioms proved
end Go.Proofs.Ytdennlekjndfkaa.spanPoints
