/- SpanDistributes: the law returns true for all arguments, without any condition. -/
import Derived.Test.YtdennlekjndfkaaOpen
import Derived.Test.YtdennlekjndfkaaMath10
import Derived.Test.YtdennlekjndfkaaLawAddSpec
namespace Go.Proofs.Ytdennlekjndfkaa.spanDistributes
open Go.ChangeShapes Go.WideShapes Go.ChangeAt Go.RowKit

set_option maxRecDepth 100000 in
set_option maxHeartbeats 4000000 in
theorem walk (w : World) (p : Option Addr) (c1 : Nat) (a : List Sp) (ha : SpAt w 0 p a) (np : p = none → c1 = 0) (q : Option Addr) (c2 : Nat) (b : List Sp) (hb : SpAt w 0 q b) (nq : q = none → c2 = 0) (r : Option Addr) (c3 : Nat) (c : List Sp) (hc : SpAt w 0 r c) (_ : r = none → c3 = 0) :
    Calls Try.prog 8 #[.slice p a.length c1, .slice q b.length c2, .slice r c.length c3] w fun e w' => e = .returned (.bool true) ∧ Below w.heap.size w w' := by
  have hla := ha.len
  have hlb := hb.len
  have hlc := hc.len
  have HA := Lib.hid ha
  have HBb := Lib.hid hb
  have HCc := Lib.hid hc
  have NP := Lib.hid np
  have NQ := Lib.hid nq
  clear ha hb hc np nq
  by_cases hf : a.length ≤ 24 ∧ b.length ≤ 24
  · have HF : Hid ((decide (a.length ≤ 24) && decide (b.length ≤ 24)) = true) := by show _ = _; simp [hf.1, hf.2]
    obtain ⟨hfa, hfb⟩ := hf
    have HN := Lib.hid (And.intro hfa hfb)
    clear hfa hfb
    by_cases hcl : c.length ≤ 24
    · have HNc := Lib.hid hcl
      have hcg : ¬ 24 < c.length := by omega
      have HD := Lib.hid (distributes a b c)
      have HUL := Lib.hid (unionS_len a b)
      clear hcl
      go_enter Try.func8, Try.ntmps8
      go_wp2_with fail
      refine (sane_any w).mono ?_
      rintro e w1 ⟨rfl, hb⟩
      have HB1 := Lib.hid hb
      clear hb
      go_wp2_with fail
      refine (few_any p q a.length b.length c1 c2 hla hlb _).mono ?_
      rw [HF.out]
      rintro e w1' ⟨rfl, rfl⟩
      go_wp2_with fail
      refine (union_any p q c1 c2 a b _ _ _ (HA.out.below HB1.out) (HBb.out.below HB1.out) NP.out NQ.out).mono ?_
      rintro e w2 hr
      obtain ⟨pu, cu, rfl, hs, hn, hb⟩ := hr.res
      have HB2 := Lib.hid (HB1.out.trans (hb.mono HB1.out.size))
      have HU := Lib.hid hs
      clear hs hb hn hr
      generalize unionE a b = E1 at *
      generalize unionS a b = U at *
      go_wp2_with fail
      refine (add_any24 pu r cu c3 U c _ _ _ HU.out (HCc.out.below HB2.out) (by have := HUL.out; have := HN.out; omega) (by have := HNc.out; omega)).mono ?_
      rintro e w3 ⟨px, cx, rfl, hs, _, hb⟩
      have HB3 := Lib.hid (HB2.out.trans (hb.mono HB2.out.size))
      have HX := Lib.hid hs
      clear hs hb
      go_wp2_with fail
      refine (add_any24 p r c1 c3 a c _ _ _ (HA.out.below HB3.out) (HCc.out.below HB3.out) (by have := HN.out; omega) (by have := HNc.out; omega)).mono ?_
      rintro e w4 ⟨py, cy, rfl, hs, hny, hb⟩
      have HB4 := Lib.hid (HB3.out.trans (hb.mono HB3.out.size))
      have HX := Lib.hid (HX.out.below hb)
      have HY := Lib.hid hs
      have NY := Lib.hid hny
      clear hs hb hny
      go_wp2_with fail
      refine (add_any24 q r c2 c3 b c _ _ _ (HBb.out.below HB4.out) (HCc.out.below HB4.out) (by have := HN.out; omega) (by have := HNc.out; omega)).mono ?_
      rintro e w5 ⟨pz, cz, rfl, hs, hnz, hb⟩
      have HB5 := Lib.hid (HB4.out.trans (hb.mono HB4.out.size))
      have HX := Lib.hid (HX.out.below hb)
      have HY := Lib.hid (HY.out.below hb)
      have HZ := Lib.hid hs
      have NZ := Lib.hid hnz
      clear hs hb hnz
      generalize addE U c = E2 at *
      generalize addE a c = E3 at *
      generalize addE b c = E4 at *
      generalize addS U c = X at *
      generalize addS a c = Y at *
      generalize addS b c = Z at *
      go_wp2_with fail
      refine (union_any py pz cy cz Y Z _ _ _ HY.out HZ.out NY.out NZ.out).mono ?_
      rintro e w6 hr
      obtain ⟨pw, cw, rfl, hs, hn, hb⟩ := hr.res
      have HB6 := Lib.hid (HB5.out.trans (hb.mono HB5.out.size))
      have HX := Lib.hid (HX.out.below hb)
      have HW := Lib.hid hs
      clear hs hb hn hr
      generalize unionE Y Z = E5 at *
      generalize unionS Y Z = V at *
      by_cases g1 : E1 ≠ 0
      · have g1' : (E1 != 0) = true := by simpa using g1
        go_wp2_with fail
        go_ret
        exact ⟨rfl, HB6.out⟩
      obtain rfl : E1 = 0 := by omega
      clear g1
      by_cases g2 : E2 ≠ 0
      · have g2' : (E2 != 0) = true := by simpa using g2
        go_wp2_with fail
        go_ret
        exact ⟨rfl, HB6.out⟩
      obtain rfl : E2 = 0 := by omega
      clear g2
      by_cases g3 : E3 ≠ 0
      · have g3' : (E3 != 0) = true := by simpa using g3
        go_wp2_with fail
        go_ret
        exact ⟨rfl, HB6.out⟩
      obtain rfl : E3 = 0 := by omega
      clear g3
      by_cases g4 : E4 ≠ 0
      · have g4' : (E4 != 0) = true := by simpa using g4
        go_wp2_with fail
        go_ret
        exact ⟨rfl, HB6.out⟩
      obtain rfl : E4 = 0 := by omega
      clear g4
      by_cases g5 : E5 ≠ 0
      · have g5' : (E5 != 0) = true := by simpa using g5
        go_wp2_with fail
        go_ret
        exact ⟨rfl, HB6.out⟩
      obtain rfl : E5 = 0 := by omega
      clear g5
      have HEQ := Lib.hid (HD.out rfl rfl rfl rfl rfl)
      go_wp2_with fail
      refine (same_any px pw cx cw X V _ _ _ HX.out HW.out).mono ?_
      rw [decide_eq_true HEQ.out]
      rintro e w7 ⟨rfl, hb⟩
      have HB7 := Lib.hid (HB6.out.trans (hb.mono HB6.out.size))
      clear hb
      go_wp2_with fail
      go_ret
      exact ⟨rfl, HB7.out⟩
    · have hcg : 24 < c.length := by omega
      clear hcl
      go_enter Try.func8, Try.ntmps8
      go_wp2_with fail
      refine (sane_any w).mono ?_
      rintro e w1 ⟨rfl, hb⟩
      have HB1 := Lib.hid hb
      clear hb
      go_wp2_with fail
      refine (few_any p q a.length b.length c1 c2 hla hlb _).mono ?_
      rw [HF.out]
      rintro e w1' ⟨rfl, rfl⟩
      go_wp2_with fail
      go_ret
      exact ⟨rfl, HB1.out⟩
  · have HF : Hid ((decide (a.length ≤ 24) && decide (b.length ≤ 24)) = false) := by
      show _ = _
      rw [Bool.and_eq_false_iff, decide_eq_false_iff_not, decide_eq_false_iff_not]; omega
    clear hf
    go_enter Try.func8, Try.ntmps8
    go_wp2_with fail
    refine (sane_any w).mono ?_
    rintro e w1 ⟨rfl, hb⟩
    have HB1 := Lib.hid hb
    clear hb
    go_wp2_with fail
    refine (few_any p q a.length b.length c1 c2 hla hlb _).mono ?_
    rw [HF.out]
    rintro e w1' ⟨rfl, rfl⟩
    go_wp2_with fail
    go_ret
    exact ⟨rfl, HB1.out⟩


set_option maxHeartbeats 1000000 in
set_option maxRecDepth 100000 in
theorem lifted (os : Os) (started : os.Started) (H : Type) (enc : TypeId × Value → H) :
    ReturnsInHanded {} Try.checked os 8 .any (Rows.spanDistributesSpec.pre6 enc Try.prog Try.f8 Rows.spanDistributesRow.domain false) (Rows.spanDistributesSpec.post enc Try.prog Try.f8 false true false false) := by
  refine returnsInHanded_of_change_sized (C := Try.checked) own' started (by kernel_rfl) Try.func8
    (ChangeSpec.witness6 (enc := enc) (C := Try.checked) false ⟨#[], #[.slice none 0 0, .slice none 0 0, .slice none 0 0], []⟩ 8 (by kernel_rfl) (by kernel_rfl) (by kernel_rfl) (by kernel_rfl)) ?_
  intro W base args ds gs before hval0 hW _ hsz0 _
  have hsz : (DataW.weightsEach Try.prog (Try.f8.params.toList ++ Rows.spanDistributesSpec.plain.varTypes Try.prog) (ds ++ gs)).all (· ≤ reachBytes) = true := hsz0
  clear hsz0
  have hval : ∀ (j : Nat) t v, Try.f8.params[j]? = some t → args[j]? = some v → Value.okWide Try.prog W .any base t v := hval0
  have hW' := hW
  obtain ⟨p, q, hA0, hV, rfl, _, _⟩ := hW
  have hA : DataW.TrodAll enc Try.prog W 0 (fun _ => true) true Try.f8.params.toList args.toList ds p := hA0
  rw [Try.params8] at hA hval hsz
  obtain ⟨v0, v1, v2, d0, d1, d2, p0, p1, p2, rfl, rfl, rfl, h0, h1, h2⟩ := trodAll_three hA
  obtain ⟨rfl, rfl⟩ := trodVars_none hV
  have h0k := h0
  have h1k := h1
  have h2k := h2
  obtain ⟨r0, c0, l0, rfl, s0, n0⟩ := open_spans (hval 0 24 v0 rfl rfl) h0 (fun elems spare e => by
    have := sized_slice hsz (j := 0) (t := 24) (e := 23) rfl (by rw [e]; rfl) Try.underlying24
    rwa [bytesSp] at this)
  obtain ⟨r1, c1, l1, rfl, s1, n1⟩ := open_spans (hval 1 24 v1 rfl rfl) h1 (fun elems spare e => by
    have := sized_slice hsz (j := 1) (t := 24) (e := 23) rfl (by rw [e]; rfl) Try.underlying24
    rwa [bytesSp] at this)
  obtain ⟨r2, c2, l2, rfl, s2, n2⟩ := open_spans (hval 2 24 v2 rfl rfl) h2 (fun elems spare e => by
    have := sized_slice hsz (j := 2) (t := 24) (e := 23) rfl (by rw [e]; rfl) Try.underlying24
    rwa [bytesSp] at this)
  clear hA0 hval0
  simp only [List.append_nil] at hW'
  have lt0 : ∀ y ∈ p0, y.block < W.heap.size := fun y hy => by simpa using hW'.lt y (by simp [hy])
  have lt1 : ∀ y ∈ p1, y.block < W.heap.size := fun y hy => by simpa using hW'.lt y (by simp [hy])
  have lt2 : ∀ y ∈ p2, y.block < W.heap.size := fun y hy => by simpa using hW'.lt y (by simp [hy])
  refine (walk W r0 c0 l0 s0 n0 r1 c1 l1 s1 n1 r2 c2 l2 s2 n2).mono fun e W' ⟨he, hn⟩ => ?_
  subst he
  exact ⟨_, rfl, _, _, _, [], _, [], hW', trodAll_mk1 (shut_bool Try.underlying4 _), trodAll_mk3 (Below.trod laidOut (by kernel_rfl) (of_decide_eq_true (by kernel_rfl)) h0k hn lt0) (Below.trod laidOut (by kernel_rfl) (of_decide_eq_true (by kernel_rfl)) h1k hn lt1) (Below.trod laidOut (by kernel_rfl) (of_decide_eq_true (by kernel_rfl)) h2k hn lt2), rfl, hn.frame _, fun h => by cases h⟩

theorem over : Rows.spanDistributesRow.holds Try.pinned (OpenSpec.ofChange Rows.spanDistributesSpec) :=
  OpenClaim.holds_of_wide 8 Try.f8 rfl rfl rfl rfl rfl rfl rfl ⟨rfl, rfl, rfl, rfl, rfl⟩ rfl rfl rfl rfl rfl (by kernel_rfl) Try.func8 (by kernel_rfl)
    (of_decide_eq_true (by kernel_rfl)) (by unfold Func.isWrapper; first | (rw [if_pos (by decide +kernel)]; kernel_rfl) | (rw [if_neg (by decide +kernel)]; exact ⟨rfl, rfl⟩))
    (fun os started H enc _ => lifted os started H enc)

theorem proved : Rows.SpanDistributesSaid := over
#print axioms proved
end Go.Proofs.Ytdennlekjndfkaa.spanDistributes
