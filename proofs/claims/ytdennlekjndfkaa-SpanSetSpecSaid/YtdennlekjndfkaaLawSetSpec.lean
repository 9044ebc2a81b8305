/- SpanSetSpec: the law returns true for all arguments, without any condition. -/
import Derived.Test.YtdennlekjndfkaaOpen2
import Derived.Test.YtdennlekjndfkaaRefE
import Derived.Deep.RegionHeld3
namespace Go.Proofs.Ytdennlekjndfkaa.spanSetSpec
open Go.ChangeShapes Go.WideShapes Go.ChangeAt Go.RowKit

set_option maxRecDepth 100000 in
set_option maxHeartbeats 20000000 in
theorem walk (w : World) (s : Sp) (hs : FitSp s) (p : Option Addr) (c1 : Nat) (a : List Sp) (ha : SpAt w 0 p a) (np : p = none → c1 = 0) (q : Option Addr) (c2 : Nat) (b : List Sp) (hb : SpAt w 0 q b) (nq : q = none → c2 = 0) (t : Int) (_ : (Lit.int .i64 t).wf = true) :
    Calls Try.prog 3 #[.agg #[.int .i64 s.1, .int .i64 s.2], .slice p a.length c1, .slice q b.length c2, .int .i64 t] w fun e w' => e = .returned (.bool true) ∧ Below w.heap.size w w' := by
  have hla := ha.len
  have hlb := hb.len
  have hb0 : Below w.heap.size w (w.alloc (.cells #[.int .i64 s.1, .int .i64 s.2] 23)) := (Below.refl _ w).alloc (Nat.le_refl _) _
  have HB0 := Lib.hid hb0
  have HA := Lib.hid (ha.below hb0)
  have HBb := Lib.hid (hb.below hb0)
  have NP := Lib.hid np
  have NQ := Lib.hid nq
  have HFS := Lib.hid hs
  clear ha hb np nq hs hb0
  by_cases hf : a.length ≤ 24 ∧ b.length ≤ 24
  · have HF : Hid ((decide (a.length ≤ 24) && decide (b.length ≤ 24)) = true) := by show _ = _; simp [hf.1, hf.2]
    obtain ⟨hfa, hfb⟩ := hf
    have HN := Lib.hid (And.intro hfa hfb)
    clear hfa hfb
    go_enter Try.func3, Try.ntmps3
    go_wp2_with fail
    refine (sane_any _).mono ?_
    rintro e w1 ⟨rfl, hb⟩
    have HB1 := Lib.hid hb
    clear hb
    go_wp2_with fail
    refine (few_any p q a.length b.length c1 c2 hla hlb _).mono ?_
    rw [HF.out]
    rintro e w1' ⟨rfl, rfl⟩
    go_wp2_with fail
    refine (set_any p c1 a _ _ (HA.out.below HB1.out)).mono ?_
    rintro e w2 hr
    obtain ⟨rx, kx, rfl, hs, _, hb⟩ := hr.res
    have HB2 := Lib.hid (HB1.out.trans (hb.mono HB1.out.size))
    have Hx := Lib.hid hs
    clear hs hb
    clear hr
    go_wp2_with fail
    refine (refSet_any p c1 a _ _ (HA.out.below HB2.out)).mono ?_
    rintro e w3 ⟨ry, ky, rfl, hs, _, hb⟩
    have HB3 := Lib.hid (HB2.out.trans (hb.mono HB2.out.size))
    have Hx := Lib.hid (Hx.out.below hb)
    have Hy := Lib.hid hs
    clear hs hb
    go_wp2_with fail
    refine (union_any p q c1 c2 a b _ _ _ (HA.out.below HB3.out) (HBb.out.below HB3.out) NP.out NQ.out).mono ?_
    rintro e w4 hr
    obtain ⟨ru, ku, rfl, hs, _, hb⟩ := hr.res
    have HB4 := Lib.hid (HB3.out.trans (hb.mono HB3.out.size))
    have Hx := Lib.hid (Hx.out.below hb)
    have Hy := Lib.hid (Hy.out.below hb)
    have Hu := Lib.hid hs
    clear hs hb
    clear hr
    go_wp2_with fail
    refine (refUnion_any p q c1 c2 a b _ _ _ (HA.out.below HB4.out) (HBb.out.below HB4.out) NP.out NQ.out).mono ?_
    rintro e w5 ⟨rv, kv, rfl, hs, _, hb⟩
    have HB5 := Lib.hid (HB4.out.trans (hb.mono HB4.out.size))
    have Hx := Lib.hid (Hx.out.below hb)
    have Hy := Lib.hid (Hy.out.below hb)
    have Hu := Lib.hid (Hu.out.below hb)
    have Hv := Lib.hid hs
    clear hs hb
    go_wp2_with fail
    refine (meet_any p q c1 c2 a b _ _ _ (HA.out.below HB5.out) (HBb.out.below HB5.out)).mono ?_
    rintro e w6 hr
    obtain ⟨rm, km, rfl, hs, _, hb⟩ := hr.res
    have HB6 := Lib.hid (HB5.out.trans (hb.mono HB5.out.size))
    have Hx := Lib.hid (Hx.out.below hb)
    have Hy := Lib.hid (Hy.out.below hb)
    have Hu := Lib.hid (Hu.out.below hb)
    have Hv := Lib.hid (Hv.out.below hb)
    have Hm := Lib.hid hs
    clear hs hb
    clear hr
    go_wp2_with fail
    refine (refMeet_any p q c1 c2 a b _ _ _ (HA.out.below HB6.out) (HBb.out.below HB6.out) HN.out.1 HN.out.2).mono ?_
    rintro e w7 ⟨rn, kn, rfl, hs, _, hb⟩
    have HB7 := Lib.hid (HB6.out.trans (hb.mono HB6.out.size))
    have Hx := Lib.hid (Hx.out.below hb)
    have Hy := Lib.hid (Hy.out.below hb)
    have Hu := Lib.hid (Hu.out.below hb)
    have Hv := Lib.hid (Hv.out.below hb)
    have Hm := Lib.hid (Hm.out.below hb)
    have Hn := Lib.hid hs
    clear hs hb
    go_wp2_with fail
    have HAB := Lib.hid (HA.out.below HB7.out)
    have hbx : w.heap.size < w7.heap.size := by have := HB7.out.size; simp at this; omega
    have c0 : w7.cell? ⟨w.heap.size, 0, none⟩ = some (.int .i64 s.1) := (HB7.out.cell (p := ⟨w.heap.size, 0, none⟩) (by simp)).trans (by simp)
    have d0 : w7.cell? ⟨w.heap.size, 1, none⟩ = some (.int .i64 s.2) := (HB7.out.cell (p := ⟨w.heap.size, 1, none⟩) (by simp)).trans (by simp)
    have HB := Lib.hid (HB0.out.trans (HB7.out.mono (by simp)))
    clear HB0 HB1 HB2 HB3 HB4 HB5 HB6 HB7 HA HBb NP NQ
    generalize setS a = LX at *
    generalize errL a = EX at *
    generalize unionS a b = LU at *
    generalize unionE a b = EU at *
    generalize meetS a b = LM at *
    generalize meetE a b = EM at *
    generalize hbxe : w.heap.size = bx at *
    generalize hES : errSp s = ES at *
    generalize hIN : inS a t = IN at *
    go_region_held3 (fun w' => w'.cell? ⟨bx, 0, none⟩ = some (.int .i64 s.1) ∧ w'.cell? ⟨bx, 1, none⟩ = some (.int .i64 s.2) ∧ Hid (Below w7.heap.size w7 w'))
      (first | exact keepS hbx c0 d0 (stepB (heldB bx s (by assumption)) hb9) | exact keepS hbx c0 d0 (below_drewN (Below.refl _ _) 1) | exact keepS hbx c0 d0 (Below.refl _ _) | assumption | go_keep)
      (first
        | (go_at_call 19; refine (check_any s HFS.out _).mono ?_; rw [hES]; rintro e w9 ⟨rfl, hb9⟩)
        | (go_at_call 20; refine (refCheck_any s HFS.out _).mono ?_; rw [hES]; rintro e w9 ⟨rfl, hb9⟩)
        | (go_at_call 21; refine (in_any p c1 a t _ _ (HAB.out.below (heldB bx s (by assumption)))).mono ?_; rw [hIN]; rintro e w9 ⟨rfl, hb9⟩)
        | (go_at_call 22; refine (refIn_any p c1 a t _ _ (HAB.out.below (heldB bx s (by assumption)))).mono ?_; rw [hIN]; rintro e w9 ⟨rfl, rfl⟩)
        | (go_at_call 23; with_reducible refine (same_any rx ry kx ky LX LX _ _ _ (Hx.out.below (heldB bx s (by assumption))) (Hy.out.below (heldB bx s (by assumption)))).mono ?_; rw [decide_eq_true (rfl : LX = LX)]; rintro e w9 ⟨rfl, hb9⟩)
        | (go_at_call 23; with_reducible refine (same_any ru rv ku kv LU LU _ _ _ (Hu.out.below (heldB bx s (by assumption))) (Hv.out.below (heldB bx s (by assumption)))).mono ?_; rw [decide_eq_true (rfl : LU = LU)]; rintro e w9 ⟨rfl, hb9⟩)
        | (go_at_call 23; with_reducible refine (same_any rm rn km kn LM LM _ _ _ (Hm.out.below (heldB bx s (by assumption))) (Hn.out.below (heldB bx s (by assumption)))).mono ?_; rw [decide_eq_true (rfl : LM = LM)]; rintro e w9 ⟨rfl, hb9⟩))
    go_wp2_with fail
    go_ret
    refine ⟨rfl, ?_⟩
    rw [hbxe]
    exact HB.out.trans ((heldB (W6 := w7) bx s (by assumption)).mono (Nat.le_of_lt hbx))
  · have HF : Hid ((decide (a.length ≤ 24) && decide (b.length ≤ 24)) = false) := by
      show _ = _
      rw [Bool.and_eq_false_iff, decide_eq_false_iff_not, decide_eq_false_iff_not]; omega
    clear hf
    go_enter Try.func3, Try.ntmps3
    go_wp2_with fail
    refine (sane_any _).mono ?_
    rintro e w1 ⟨rfl, hb⟩
    have HB1 := Lib.hid hb
    clear hb
    go_wp2_with fail
    refine (few_any p q a.length b.length c1 c2 hla hlb _).mono ?_
    rw [HF.out]
    rintro e w1' ⟨rfl, rfl⟩
    go_wp2_with fail
    go_ret
    exact ⟨rfl, HB0.out.trans (HB1.out.mono (by simp))⟩


set_option maxHeartbeats 1000000 in
set_option maxRecDepth 100000 in
theorem lifted (os : Os) (started : os.Started) (H : Type) (enc : TypeId × Value → H) :
    ReturnsInHanded {} Try.checked os 3 .any (Rows.spanSetSpecSpec.pre6 enc Try.prog Try.f3 Rows.spanSetSpecRow.domain false) (Rows.spanSetSpecSpec.post enc Try.prog Try.f3 false true false false) := by
  refine returnsInHanded_of_change_sized (C := Try.checked) own' started (by kernel_rfl) Try.func3
    (ChangeSpec.witness6 (enc := enc) (C := Try.checked) false ⟨#[], #[.agg #[.int .i64 0, .int .i64 0], .slice none 0 0, .slice none 0 0, .int .i64 0], []⟩ 8 (by kernel_rfl) (by kernel_rfl) (by kernel_rfl) (by kernel_rfl)) ?_
  intro W base args ds gs before hval0 hW _ hsz0 _
  have hsz : (DataW.weightsEach Try.prog (Try.f3.params.toList ++ Rows.spanSetSpecSpec.plain.varTypes Try.prog) (ds ++ gs)).all (· ≤ reachBytes) = true := hsz0
  clear hsz0
  have hval : ∀ (j : Nat) t v, Try.f3.params[j]? = some t → args[j]? = some v → Value.okWide Try.prog W .any base t v := hval0
  have hW' := hW
  obtain ⟨p, q, hA0, hV, rfl, _, _⟩ := hW
  have hA : DataW.TrodAll enc Try.prog W 0 (fun _ => true) true Try.f3.params.toList args.toList ds p := hA0
  rw [Try.params3] at hA hval hsz
  obtain ⟨v0, v1, v2, v3, d0, d1, d2, d3, p0, p1, p2, p3, rfl, rfl, rfl, h0, h1, h2, h3⟩ := trodAll_four hA
  obtain ⟨rfl, rfl⟩ := trodVars_none hV
  have h0k := h0
  have h1k := h1
  have h2k := h2
  have h3k := h3
  obtain ⟨r1, c1, l1, rfl, s1, n1⟩ := open_spans (hval 1 24 v1 rfl rfl) h1 (fun elems spare e => by
    have := sized_slice hsz (j := 1) (t := 24) (e := 23) rfl (by rw [e]; rfl) Try.underlying24
    rwa [bytesSp] at this)
  obtain ⟨r2, c2, l2, rfl, s2, n2⟩ := open_spans (hval 2 24 v2 rfl rfl) h2 (fun elems spare e => by
    have := sized_slice hsz (j := 2) (t := 24) (e := 23) rfl (by rw [e]; rfl) Try.underlying24
    rwa [bytesSp] at this)
  obtain ⟨z0, rfl, f0⟩ := open_span (hval 0 23 v0 rfl rfl) h0
  obtain ⟨x3, rfl, rfl, rfl, w3⟩ := open_int Try.underlying3 (hval 3 3 v3 rfl rfl) h3
  clear hA0 hval0
  simp only [List.append_nil] at hW'
  have lt0 : ∀ y ∈ p0, y.block < W.heap.size := fun y hy => by simpa using hW'.lt y (by simp [hy])
  have lt1 : ∀ y ∈ p1, y.block < W.heap.size := fun y hy => by simpa using hW'.lt y (by simp [hy])
  have lt2 : ∀ y ∈ p2, y.block < W.heap.size := fun y hy => by simpa using hW'.lt y (by simp [hy])
  refine (walk W z0 f0 r1 c1 l1 s1 n1 r2 c2 l2 s2 n2 x3 w3).mono fun e W' ⟨he, hn⟩ => ?_
  subst he
  exact ⟨_, rfl, _, _, _, [], _, [], hW', trodAll_mk1 (shut_bool Try.underlying4 _), trodAll_mk4 (Below.trod laidOut (by kernel_rfl) (of_decide_eq_true (by kernel_rfl)) h0k hn lt0) (Below.trod laidOut (by kernel_rfl) (of_decide_eq_true (by kernel_rfl)) h1k hn lt1) (Below.trod laidOut (by kernel_rfl) (of_decide_eq_true (by kernel_rfl)) h2k hn lt2) (Below.trod laidOut (by kernel_rfl) (of_decide_eq_true (by kernel_rfl)) h3k hn (fun y hy => by cases hy)), rfl, hn.frame _, fun h => by cases h⟩

theorem over : Rows.spanSetSpecRow.holds Try.pinned (OpenSpec.ofChange Rows.spanSetSpecSpec) :=
  OpenClaim.holds_of_wide 3 Try.f3 rfl rfl rfl rfl rfl rfl rfl ⟨rfl, rfl, rfl, rfl, rfl⟩ rfl rfl rfl rfl rfl (by kernel_rfl) Try.func3 (by kernel_rfl)
    (of_decide_eq_true (by kernel_rfl)) (by unfold Func.isWrapper; first | (rw [if_pos (by decide +kernel)]; kernel_rfl) | (rw [if_neg (by decide +kernel)]; exact ⟨rfl, rfl⟩))
    (fun os started H enc _ => lifted os started H enc)

theorem proved : Rows.SpanSetSpecSaid := over
#print axioms proved
end Go.Proofs.Ytdennlekjndfkaa.spanSetSpec
