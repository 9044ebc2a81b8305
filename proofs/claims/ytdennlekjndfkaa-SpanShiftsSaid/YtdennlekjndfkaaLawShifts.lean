/- SpanShifts: the law returns true for all arguments, without any condition. -/
import Derived.Test.YtdennlekjndfkaaOpen
import Derived.Test.YtdennlekjndfkaaMath10
import Derived.Test.YtdennlekjndfkaaLawAddSpec
namespace Go.Proofs.Ytdennlekjndfkaa.spanShifts
open Go.ChangeShapes Go.WideShapes Go.ChangeAt Go.RowKit

set_option maxRecDepth 100000 in
set_option maxHeartbeats 4000000 in
theorem walk (w : World) (p : Option Addr) (c1 : Nat) (a : List Sp) (ha : SpAt w 0 p a) (_ : p = none → c1 = 0) (t : Int) (wt : (Lit.int .i64 t).wf = true) :
    Calls Try.prog 9 #[.slice p a.length c1, .int .i64 t] w fun e w' => e = .returned (.bool true) ∧ Below w.heap.size w w' := by
  have hb64 := bounds_i64 wt
  have hla := ha.len
  have HA := Lib.hid ha
  clear ha wt
  by_cases h1 : 24 < a.length
  · go_enter Try.func9, Try.ntmps9
    go_wp2_with fail
    refine (sane_any w).mono ?_
    rintro e w1 ⟨rfl, hb⟩
    have HB1 := Lib.hid hb
    clear hb
    go_wp2_with fail
    go_ret
    exact ⟨rfl, HB1.out⟩
  by_cases h2 : t < -70368744177664
  · go_enter Try.func9, Try.ntmps9
    go_wp2_with fail
    refine (sane_any w).mono ?_
    rintro e w1 ⟨rfl, hb⟩
    have HB1 := Lib.hid hb
    clear hb
    go_wp2_with fail
    go_ret
    exact ⟨rfl, HB1.out⟩
  by_cases h3 : 70368744177664 < t
  · go_enter Try.func9, Try.ntmps9
    go_wp2_with fail
    refine (sane_any w).mono ?_
    rintro e w1 ⟨rfl, hb⟩
    have HB1 := Lib.hid hb
    clear hb
    go_wp2_with fail
    go_ret
    exact ⟨rfl, HB1.out⟩
  have HN := Lib.hid (show a.length ≤ 24 by omega)
  have HSH := Lib.hid (shifts a t (by omega) ⟨by omega, by omega⟩)
  have HFT : Hid (∀ s ∈ [(t, t)], FitSp s) := fun s hs => by
    obtain rfl := List.mem_singleton.1 hs
    exact ⟨⟨by dsimp only; omega, by dsimp only; omega⟩, ⟨by dsimp only; omega, by dsimp only; omega⟩⟩
  go_enter Try.func9, Try.ntmps9
  go_wp2_with fail
  refine (sane_any w).mono ?_
  rintro e w1 ⟨rfl, hb⟩
  have HB1 := Lib.hid hb
  clear hb
  go_wp2_with fail
  refine (shift_any p c1 a t (by omega) _ _ (HA.out.below HB1.out)).mono ?_
  rintro e w2 ⟨px, cx, rfl, hs, _, hb⟩
  have HB2 := Lib.hid (HB1.out.trans (hb.mono HB1.out.size))
  have HX := Lib.hid hs
  clear hs hb
  generalize shiftE a t = E1 at *
  generalize shiftS a t = X at *
  go_wp2_with fail
  refine (of_new [(t, t)] 2 rfl (by simp) HFT.out _).mono ?_
  rintro e w3 ⟨po, co, rfl, hs, _, hb⟩
  have HB3 := Lib.hid (HB2.out.trans (hb.mono HB2.out.size))
  have HX := Lib.hid (HX.out.below hb)
  have HO := Lib.hid hs
  clear hs hb
  go_wp2_with fail
  refine (add_any24 p po c1 co a [(t, t)] _ _ _ (HA.out.below HB3.out) HO.out (by have := HN.out; omega) (by simp)).mono ?_
  rintro e w4 ⟨py, cy, rfl, hs, _, hb⟩
  have HB4 := Lib.hid (HB3.out.trans (hb.mono HB3.out.size))
  have HX := Lib.hid (HX.out.below hb)
  have HY := Lib.hid hs
  clear hs hb
  generalize addE a [(t, t)] = E2 at *
  generalize addS a [(t, t)] = Y at *
  go_wp2_with fail
  refine (set_any p c1 a _ _ (HA.out.below HB4.out)).mono ?_
  rintro e w5 hr
  obtain ⟨ps, cs, rfl, hs, hn, hb⟩ := hr.res
  have HB5 := Lib.hid (HB4.out.trans (hb.mono HB4.out.size))
  have HX := Lib.hid (HX.out.below hb)
  have HY := Lib.hid (HY.out.below hb)
  have HS := Lib.hid hs
  clear hs hb hn hr
  generalize errL a = E3 at *
  generalize setS a = V at *
  by_cases g1 : E1 ≠ 0
  · have g1' : (E1 != 0) = true := by simpa using g1
    obtain ⟨g2, rfl⟩ := HSH.out.1 g1
    have g2' : (E2 != 0) = true := by simpa using g2
    go_wp2_with fail
    go_ret
    exact ⟨rfl, HB5.out⟩
  obtain rfl : E1 = 0 := by omega
  clear g1
  obtain ⟨rfl, rfl, k4, rfl, k6⟩ := HSH.out.2 rfl
  have HZ0 := Lib.hid (shift_any px cx X (-t) (by omega))
  rw [k4, k6] at HZ0
  clear k4 k6 HSH
  go_wp2_with fail
  refine (HZ0.out _ _ HX.out).mono ?_
  rintro e w6 ⟨pz, cz, rfl, hs, _, hb⟩
  have HB6 := Lib.hid (HB5.out.trans (hb.mono HB5.out.size))
  have HX := Lib.hid (HX.out.below hb)
  have HY := Lib.hid (HY.out.below hb)
  have HS := Lib.hid (HS.out.below hb)
  have HZ := Lib.hid hs
  clear hs hb
  go_wp2_with fail
  refine (same_any px py cx cy X X _ _ _ HX.out HY.out).mono ?_
  rw [decide_eq_true (rfl : X = X)]
  rintro e w7 ⟨rfl, hb⟩
  have HB7 := Lib.hid (HB6.out.trans (hb.mono HB6.out.size))
  have HZ := Lib.hid (HZ.out.below hb)
  have HS := Lib.hid (HS.out.below hb)
  clear hb
  go_wp2_with fail
  refine (same_any pz ps cz cs V V _ _ _ HZ.out HS.out).mono ?_
  rw [decide_eq_true (rfl : V = V)]
  rintro e w8 ⟨rfl, hb⟩
  have HB8 := Lib.hid (HB7.out.trans (hb.mono HB7.out.size))
  clear hb
  go_wp2_with fail
  go_ret
  exact ⟨rfl, HB8.out⟩


set_option maxHeartbeats 1000000 in
set_option maxRecDepth 100000 in
theorem lifted (os : Os) (started : os.Started) (H : Type) (enc : TypeId × Value → H) :
    ReturnsInHanded {} Try.checked os 9 .any (Rows.spanShiftsSpec.pre6 enc Try.prog Try.f9 Rows.spanShiftsRow.domain false) (Rows.spanShiftsSpec.post enc Try.prog Try.f9 false true false false) := by
  refine returnsInHanded_of_change_sized (C := Try.checked) own' started (by kernel_rfl) Try.func9
    (ChangeSpec.witness6 (enc := enc) (C := Try.checked) false ⟨#[], #[.slice none 0 0, .int .i64 0], []⟩ 8 (by kernel_rfl) (by kernel_rfl) (by kernel_rfl) (by kernel_rfl)) ?_
  intro W base args ds gs before hval0 hW _ hsz0 _
  have hsz : (DataW.weightsEach Try.prog (Try.f9.params.toList ++ Rows.spanShiftsSpec.plain.varTypes Try.prog) (ds ++ gs)).all (· ≤ reachBytes) = true := hsz0
  clear hsz0
  have hval : ∀ (j : Nat) t v, Try.f9.params[j]? = some t → args[j]? = some v → Value.okWide Try.prog W .any base t v := hval0
  have hW' := hW
  obtain ⟨p, q, hA0, hV, rfl, _, _⟩ := hW
  have hA : DataW.TrodAll enc Try.prog W 0 (fun _ => true) true Try.f9.params.toList args.toList ds p := hA0
  rw [Try.params9] at hA hval hsz
  obtain ⟨v0, v1, d0, d1, p0, p1, rfl, rfl, rfl, h0, h1⟩ := trodAll_two hA
  obtain ⟨rfl, rfl⟩ := trodVars_none hV
  have h0k := h0
  have h1k := h1
  obtain ⟨r0, c0, l0, rfl, s0, n0⟩ := open_spans (hval 0 24 v0 rfl rfl) h0 (fun elems spare e => by
    have := sized_slice hsz (j := 0) (t := 24) (e := 23) rfl (by rw [e]; rfl) Try.underlying24
    rwa [bytesSp] at this)
  obtain ⟨x1, rfl, rfl, rfl, w1⟩ := open_int Try.underlying3 (hval 1 3 v1 rfl rfl) h1
  clear hA0 hval0
  simp only [List.append_nil] at hW'
  have lt0 : ∀ y ∈ p0, y.block < W.heap.size := fun y hy => by simpa using hW'.lt y (by simp [hy])
  refine (walk W r0 c0 l0 s0 n0 x1 w1).mono fun e W' ⟨he, hn⟩ => ?_
  subst he
  exact ⟨_, rfl, _, _, _, [], _, [], hW', trodAll_mk1 (shut_bool Try.underlying4 _), trodAll_mk2 (Below.trod laidOut (by kernel_rfl) (of_decide_eq_true (by kernel_rfl)) h0k hn lt0) (Below.trod laidOut (by kernel_rfl) (of_decide_eq_true (by kernel_rfl)) h1k hn (fun y hy => by cases hy)), rfl, hn.frame _, fun h => by cases h⟩

theorem over : Rows.spanShiftsRow.holds Try.pinned (OpenSpec.ofChange Rows.spanShiftsSpec) :=
  OpenClaim.holds_of_wide 9 Try.f9 rfl rfl rfl rfl rfl rfl rfl ⟨rfl, rfl, rfl, rfl, rfl⟩ rfl rfl rfl rfl rfl (by kernel_rfl) Try.func9 (by kernel_rfl)
    (of_decide_eq_true (by kernel_rfl)) (by unfold Func.isWrapper; first | (rw [if_pos (by decide +kernel)]; kernel_rfl) | (rw [if_neg (by decide +kernel)]; exact ⟨rfl, rfl⟩))
    (fun os started H enc _ => lifted os started H enc)

theorem proved : Rows.SpanShiftsSaid := over
#print axioms proved
end Go.Proofs.Ytdennlekjndfkaa.spanShifts
