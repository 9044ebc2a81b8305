/- SpanAddSpec: the law returns true for all arguments, without any condition. -/
import Derived.Test.YtdennlekjndfkaaOpen
namespace Go.Proofs.Ytdennlekjndfkaa
open Go.RowKit
theorem add_any24 (p q : Option Addr) (cap cap' : Nat) (a b : List Sp) (w : World) (B B' : Nat) (ha : SpAt w B p a) (hb : SpAt w B' q b) (ha24 : a.length ≤ 200) (hb24 : b.length ≤ 200) :
    Calls Try.prog 24 #[.slice p a.length cap, .slice q b.length cap'] w (Res w (addS a b) (addE a b)) := by
  by_cases h : errLL a b = 0
  · obtain ⟨ea, eb⟩ := errLL_zero h
    have h1 := Nat.le_trans (canon_len _ (errL_bd ea)) ha24
    have h2 := Nat.le_trans (canon_len _ (errL_bd eb)) hb24
    have h3 : (canon a).length * (canon b).length ≤ 200 * 200 := Nat.mul_le_mul h1 h2
    exact add_ok p q cap cap' a b w B B' ha hb h (by omega)
  · have := add_bad p q cap cap' a b w B B' ha hb h
    rw [show addS a b = [] by unfold addS; rw [if_neg h], show addE a b = errLL a b by unfold addE; rw [if_neg h]]
    exact this
end Go.Proofs.Ytdennlekjndfkaa
namespace Go.Proofs.Ytdennlekjndfkaa.spanAddSpec
open Go.ChangeShapes Go.WideShapes Go.ChangeAt Go.RowKit

set_option maxRecDepth 100000 in
set_option maxHeartbeats 4000000 in
theorem walk (w : World) (p : Option Addr) (c : Nat) (a : List Sp) (ha : SpAt w 0 p a) (_ : p = none → c = 0) (q : Option Addr) (c' : Nat) (b : List Sp) (hb : SpAt w 0 q b) (_ : q = none → c' = 0) (t : Int) (wt : (Lit.int .i64 t).wf = true) :
    Calls Try.prog 4 #[.slice p a.length c, .slice q b.length c', .int .i64 t] w fun e w' => e = .returned (.bool true) ∧ Below w.heap.size w w' := by
  have ht := bounds_i64 wt
  have hla := ha.len
  have hlb := hb.len
  have HA := Lib.hid ha
  have HBb := Lib.hid hb
  clear ha hb wt
  by_cases hf : a.length ≤ 24 ∧ b.length ≤ 24
  · have HF : Hid ((decide (a.length ≤ 24) && decide (b.length ≤ 24)) = true) := by show _ = _; simp [hf.1, hf.2]
    obtain ⟨hfa, hfb⟩ := hf
    have HN := Lib.hid (And.intro hfa hfb)
    clear hfa hfb
    go_enter Try.func4, Try.ntmps4
    go_wp2_with fail
    refine (sane_any w).mono ?_
    rintro e w1 ⟨rfl, hb⟩
    have HB1 := Lib.hid hb
    clear hb
    go_wp2_with fail
    refine (few_any p q a.length b.length c c' hla hlb _).mono ?_
    rw [HF.out]
    rintro e w1' ⟨rfl, rfl⟩
    go_wp2_with fail
    refine (add_any24 p q c c' a b _ _ _ (HA.out.below HB1.out) (HBb.out.below HB1.out) (by have := HN.out; omega) (by have := HN.out; omega)).mono ?_
    rintro e w2 ⟨px, cx, rfl, hs, _, hb⟩
    have HB2 := Lib.hid (HB1.out.trans (hb.mono HB1.out.size))
    have HX := Lib.hid hs
    clear hs hb
    go_wp2_with fail
    refine (refAdd_any p q c c' a b _ _ _ (HA.out.below HB2.out) (HBb.out.below HB2.out) (by have := HN.out; omega) (by have := HN.out; omega)).mono ?_
    rintro e w3 ⟨py, cy, rfl, hs, _, hb⟩
    have HB3 := Lib.hid (HB2.out.trans (hb.mono HB2.out.size))
    have HX := Lib.hid (HX.out.below hb)
    have HY := Lib.hid hs
    clear hs hb
    go_wp2_with fail
    refine (shift_any p c a t ht _ _ (HA.out.below HB3.out)).mono ?_
    rintro e w4 ⟨pu, cu, rfl, hs, _, hb⟩
    have HB4 := Lib.hid (HB3.out.trans (hb.mono HB3.out.size))
    have HX := Lib.hid (HX.out.below hb)
    have HY := Lib.hid (HY.out.below hb)
    have HU := Lib.hid hs
    clear hs hb
    go_wp2_with fail
    refine (refShift_any p c a t ht _ _ (HA.out.below HB4.out)).mono ?_
    rintro e w5 ⟨pv, cv, rfl, hs, _, hb⟩
    have HB5 := Lib.hid (HB4.out.trans (hb.mono HB4.out.size))
    have HX := Lib.hid (HX.out.below hb)
    have HY := Lib.hid (HY.out.below hb)
    have HU := Lib.hid (HU.out.below hb)
    have HV := Lib.hid hs
    clear hs hb
    go_wp2_with fail
    refine (same_any px py cx cy (addS a b) (addS a b) _ _ _ HX.out HY.out).mono ?_
    rw [decide_eq_true (rfl : addS a b = addS a b)]
    rintro e w6 ⟨rfl, hb⟩
    have HB6 := Lib.hid (HB5.out.trans (hb.mono HB5.out.size))
    have HU := Lib.hid (HU.out.below hb)
    have HV := Lib.hid (HV.out.below hb)
    clear hb
    go_wp2_with fail
    refine (same_any pu pv cu cv (shiftS a t) (shiftS a t) _ _ _ HU.out HV.out).mono ?_
    rw [decide_eq_true (rfl : shiftS a t = shiftS a t)]
    rintro e w7 ⟨rfl, hb⟩
    have HB7 := Lib.hid (HB6.out.trans (hb.mono HB6.out.size))
    clear hb
    go_wp2_with fail
    go_ret
    exact ⟨rfl, HB7.out⟩
  · have HF : Hid ((decide (a.length ≤ 24) && decide (b.length ≤ 24)) = false) := by
      show _ = _
      rw [Bool.and_eq_false_iff, decide_eq_false_iff_not, decide_eq_false_iff_not]; omega
    clear hf
    go_enter Try.func4, Try.ntmps4
    go_wp2_with fail
    refine (sane_any w).mono ?_
    rintro e w1 ⟨rfl, hb⟩
    have HB1 := Lib.hid hb
    clear hb
    go_wp2_with fail
    refine (few_any p q a.length b.length c c' hla hlb _).mono ?_
    rw [HF.out]
    rintro e w1' ⟨rfl, rfl⟩
    go_wp2_with fail
    go_ret
    exact ⟨rfl, HB1.out⟩

set_option maxHeartbeats 1000000 in
set_option maxRecDepth 100000 in
theorem lifted (os : Os) (started : os.Started) (H : Type) (enc : TypeId × Value → H) :
    ReturnsInHanded {} Try.checked os 4 .any (Rows.spanAddSpecSpec.pre6 enc Try.prog Try.f4 Rows.spanAddSpecRow.domain false) (Rows.spanAddSpecSpec.post enc Try.prog Try.f4 false true false false) := by
  refine returnsInHanded_of_change_sized (C := Try.checked) own' started (by kernel_rfl) Try.func4
    (ChangeSpec.witness6 (enc := enc) (C := Try.checked) false ⟨#[], #[.slice none 0 0, .slice none 0 0, .int .i64 0], []⟩ 8 (by kernel_rfl) (by kernel_rfl) (by kernel_rfl) (by kernel_rfl)) ?_
  intro W base args ds gs before hval0 hW _ hsz0 _
  have hsz : (DataW.weightsEach Try.prog (Try.f4.params.toList ++ Rows.spanAddSpecSpec.plain.varTypes Try.prog) (ds ++ gs)).all (· ≤ reachBytes) = true := hsz0
  clear hsz0
  have hval : ∀ (j : Nat) t v, Try.f4.params[j]? = some t → args[j]? = some v → Value.okWide Try.prog W .any base t v := hval0
  have hW' := hW
  obtain ⟨p, q, hA0, hV, rfl, _, _⟩ := hW
  have hA : DataW.TrodAll enc Try.prog W 0 (fun _ => true) true Try.f4.params.toList args.toList ds p := hA0
  rw [Try.params4] at hA hval hsz
  obtain ⟨v0, v1, v2, d0, d1, d2, p0, p1, p2, rfl, rfl, rfl, h0, h1, h2⟩ := trodAll_three hA
  obtain ⟨rfl, rfl⟩ := trodVars_none hV
  have h0k := h0
  have h1k := h1
  have h2k := h2
  obtain ⟨r0, c0, l0, rfl, s0, n0⟩ := open_spans (hval 0 24 v0 rfl rfl) h0 (fun elems spare e => by
    have := sized_slice hsz (j := 0) (t := 24) (e := 23) rfl (by rw [e]; rfl) Try.underlying24
    rwa [bytesSp] at this)
  obtain ⟨r1, c1, l1, rfl, s1, n1⟩ := open_spans (hval 1 24 v1 rfl rfl) h1 (fun elems spare e => by
    have := sized_slice hsz (j := 1) (t := 24) (e := 23) rfl (by rw [e]; rfl) Try.underlying24
    rwa [bytesSp] at this)
  obtain ⟨x2, rfl, rfl, rfl, w2⟩ := open_int Try.underlying3 (hval 2 3 v2 rfl rfl) h2
  clear hA0 hval0
  simp only [List.append_nil] at hW'
  have lt0 : ∀ y ∈ p0, y.block < W.heap.size := fun y hy => by simpa using hW'.lt y (by simp [hy])
  have lt1 : ∀ y ∈ p1, y.block < W.heap.size := fun y hy => by simpa using hW'.lt y (by simp [hy])
  refine (walk W r0 c0 l0 s0 n0 r1 c1 l1 s1 n1 x2 w2).mono fun e W' ⟨he, hn⟩ => ?_
  subst he
  exact ⟨_, rfl, _, _, _, [], _, [], hW', trodAll_mk1 (shut_bool Try.underlying4 _), trodAll_mk3 (Below.trod laidOut (by kernel_rfl) (of_decide_eq_true (by kernel_rfl)) h0k hn lt0) (Below.trod laidOut (by kernel_rfl) (of_decide_eq_true (by kernel_rfl)) h1k hn lt1) (Below.trod laidOut (by kernel_rfl) (of_decide_eq_true (by kernel_rfl)) h2k hn (fun y hy => by cases hy)), rfl, hn.frame _, fun h => by cases h⟩

theorem over : Rows.spanAddSpecRow.holds Try.pinned (OpenSpec.ofChange Rows.spanAddSpecSpec) :=
  OpenClaim.holds_of_wide 4 Try.f4 rfl rfl rfl rfl rfl rfl rfl ⟨rfl, rfl, rfl, rfl, rfl⟩ rfl rfl rfl rfl rfl (by kernel_rfl) Try.func4 (by kernel_rfl)
    (of_decide_eq_true (by kernel_rfl)) (by unfold Func.isWrapper; first | (rw [if_pos (by decide +kernel)]; kernel_rfl) | (rw [if_neg (by decide +kernel)]; exact ⟨rfl, rfl⟩))
    (fun os started H enc _ => lifted os started H enc)

theorem proved : Rows.SpanAddSpecSaid := over
#print axioms proved
end Go.Proofs.Ytdennlekjndfkaa.spanAddSpec
