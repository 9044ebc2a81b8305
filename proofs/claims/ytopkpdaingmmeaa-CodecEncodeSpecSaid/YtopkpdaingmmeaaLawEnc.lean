/- CodecEncodeSpec: the law returns true for all arguments, without any condition. -/
import Derived.Test.YtopkpdaingmmeaaVLaw
import Derived.Deep.Light
import Derived.Deep.RegionHeld3
import Derived.Test.YtopkpdaingmmeaaVRefEnc2
namespace Go.Proofs.Ytopkpdaingmmeaa.codecEncodeSpec
open Go.ChangeShapes Go.WideShapes Go.ChangeAt Go.RowKit Go.Deep

/-- What stands while the law runs: the input's memory, and the parameter's box. -/
def Inv (w : World) (k n : Int) (s : ByteArray) (sl : Value) (wr : World) : Prop := Below w.heap.size w wr ∧ Box wr w.heap.size k n s sl
theorem Inv.step {w wr w' : World} {k n : Int} {s : ByteArray} {sl : Value} (h : Inv w k n s sl wr) (hb : Below wr.heap.size wr w') : Inv w k n s sl w' := ⟨h.1.trans (hb.mono h.1.size), h.2.bel hb h.2.lt⟩
theorem keep6 {W w9 : World} {b1 : Nat} {k n : Int} {s : ByteArray} {sl : Value} {B B' : Nat} {q q' : Option Addr} {en : List UInt8} {c c' : Nat} (hx : Box W b1 k n s sl) (ha : BAt W B q en) (ha' : BAt W B' q' en) (h : Below W.heap.size W w9) :
    w9.cell? ⟨b1, 0, none⟩ = some (.int .i64 k) ∧ w9.cell? ⟨b1, 1, none⟩ = some (.int .i64 n) ∧ w9.cell? ⟨b1, 2, none⟩ = some (.string s) ∧ w9.cell? ⟨b1, 3, none⟩ = some sl ∧ (convert 27 9 (.slice q en.length c)).run Try.prog w9 = .ok (.string ⟨en.toArray⟩) w9 ∧ (convert 27 9 (.slice q' en.length c')).run Try.prog w9 = .ok (.string ⟨en.toArray⟩) w9 ∧ Hid (Below W.heap.size W w9) := by
  obtain ⟨_, a0, a1, a2, a3⟩ := hx.bel h hx.lt
  exact ⟨a0, a1, a2, a3, strOf (ha.below h) c, strOf (ha'.below h) c', Lib.hid h⟩
theorem held6 {W wc : World} {b1 : Nat} {k n : Int} {s : ByteArray} {sl : Value} {q q' : Option Addr} {en : List UInt8} {c c' : Nat} (h : wc.cell? ⟨b1, 0, none⟩ = some (.int .i64 k) ∧ wc.cell? ⟨b1, 1, none⟩ = some (.int .i64 n) ∧ wc.cell? ⟨b1, 2, none⟩ = some (.string s) ∧ wc.cell? ⟨b1, 3, none⟩ = some sl ∧ (convert 27 9 (.slice q en.length c)).run Try.prog wc = .ok (.string ⟨en.toArray⟩) wc ∧ (convert 27 9 (.slice q' en.length c')).run Try.prog wc = .ok (.string ⟨en.toArray⟩) wc ∧ Hid (Below W.heap.size W wc)) : Below W.heap.size W wc := h.2.2.2.2.2.2.out

set_option maxRecDepth 100000 in
set_option maxHeartbeats 8000000 in
theorem walk (w : World) (u0 : V) (r0 : Option Addr) (c0 : Nat) (s0 : VAt w 0 u0 r0 c0) :
    Calls Try.prog 3 #[vV u0 r0 c0] w fun e w' => e = .returned (.bool true) ∧ Below w.heap.size w w' := by
  obtain ⟨k, n, s, l⟩ := u0
  have VA : ∀ wr, Below w.heap.size w wr → VAt wr 0 (.mk k n s l) r0 c0 := fun wr hb => s0.bel hb
  have hfit := s0.fits
  have HFEW : Hid (∀ wr, Below w.heap.size w wr → Calls Try.prog 11 #[.slice (some ⟨wr.heap.size, 0, none⟩) 1 1] (wr.alloc (.cells #[.int .i64 k, .int .i64 n, .string s, .slice r0 l.length c0] 24)) fun e w' => e = .returned (.bool (decide (cnt 21 (.mk k n s l) ≤ 200))) ∧ Below wr.heap.size wr w') := Lib.hid fun wr hb => by
    have h1 := one_at (VA wr hb)
    have hb2 := (Below.refl wr.heap.size wr).alloc (Nat.le_refl _) (.cells #[.int .i64 k, .int .i64 n, .string s, .slice r0 l.length c0] 24)
    refine (few_any [.mk k n s l] _ 0 _ _ h1).mono ?_
    rintro e w' ⟨rfl, hb'⟩
    refine ⟨?_, hb2.trans (hb'.mono hb2.size)⟩
    simp
  show Calls Try.prog 3 #[.agg #[.int .i64 k, .int .i64 n, .string s, .slice r0 l.length c0]] w _
  have hb0 := (Below.refl w.heap.size w).alloc (Nat.le_refl _) (.cells #[.int .i64 k, .int .i64 n, .string s, .slice r0 l.length c0] 24)
  have HI0 : Hid (Inv w k n s (.slice r0 l.length c0) (w.alloc (.cells #[.int .i64 k, .int .i64 n, .string s, .slice r0 l.length c0] 24))) := Lib.hid ⟨hb0, Box.new w k n s _⟩
  clear hb0 s0
  by_cases hfew : cnt 21 (.mk k n s l) ≤ 200
  · obtain ⟨hr, he, _⟩ := cnt_small 21 _ hfit hfew
    have hel : (enc (.mk k n s l)).length ≤ 1000000 := by omega
    have HFEW2 : Hid (∀ wr, Below w.heap.size w wr → Calls Try.prog 11 #[.slice (some ⟨wr.heap.size, 0, none⟩) 1 1] (wr.alloc (.cells #[.int .i64 k, .int .i64 n, .string s, .slice r0 l.length c0] 24)) fun e w' => e = .returned (.bool true) ∧ Below wr.heap.size wr w') := Lib.hid fun wr hb => by
      have := HFEW.out wr hb
      rwa [decide_eq_true hfew] at this
    have HENC : Hid (∀ wr, Below w.heap.size w wr → Calls Try.prog 12 #[.agg #[.int .i64 k, .int .i64 n, .string s, .slice r0 l.length c0]] wr fun e w' => Below wr.heap.size wr w' ∧ ∃ q m c, e = .returned (.tuple #[.slice q m c, .int .i64 (errV (.mk k n s l))]) ∧ BAt w' wr.heap.size q (if errV (.mk k n s l) = 0 then enc (.mk k n s l) else []) ∧ m = (if errV (.mk k n s l) = 0 then enc (.mk k n s l) else []).length) := Lib.hid fun wr hb =>
      (encode_any (.mk k n s l) (by omega) (fun _ => by omega) wr 0 r0 c0 (VA wr hb)).mono fun e w' ⟨h1, q, m, c, h2, h3, h4, _⟩ => ⟨h1, q, m, c, h2, h3, h4⟩
    have HREN : Hid (∀ wr, Below w.heap.size w wr → Calls Try.prog 13 #[.agg #[.int .i64 k, .int .i64 n, .string s, .slice r0 l.length c0]] wr fun e w' => Below wr.heap.size wr w' ∧ ∃ q m c, e = .returned (.tuple #[.slice q m c, .int .i64 (errV (.mk k n s l))]) ∧ BAt w' wr.heap.size q (if errV (.mk k n s l) = 0 then enc (.mk k n s l) else []) ∧ m = (if errV (.mk k n s l) = 0 then enc (.mk k n s l) else []).length) := Lib.hid fun wr hb =>
      (refEncode_any (.mk k n s l) (by omega) (by omega) wr 0 r0 c0 (VA wr hb)).mono fun e w' ⟨h1, h2⟩ => ⟨h1, h2⟩
    have HSZ : Hid (∀ wr, Below w.heap.size w wr → Calls Try.prog 14 #[.agg #[.int .i64 k, .int .i64 n, .string s, .slice r0 l.length c0]] wr fun e w' => e = .returned (.tuple #[.int .i64 (if errV (.mk k n s l) = 0 then (enc (.mk k n s l)).length else 0), .int .i64 (errV (.mk k n s l))]) ∧ Below wr.heap.size wr w') := Lib.hid fun wr hb =>
      size_any (.mk k n s l) (by omega) (fun _ => by omega) wr 0 r0 c0 (VA wr hb)
    have HRSZ : Hid (∀ wr, Below w.heap.size w wr → Calls Try.prog 15 #[.agg #[.int .i64 k, .int .i64 n, .string s, .slice r0 l.length c0]] wr fun e w' => e = .returned (.tuple #[.int .i64 (if errV (.mk k n s l) = 0 then (enc (.mk k n s l)).length else 0), .int .i64 (errV (.mk k n s l))]) ∧ Below wr.heap.size wr w') := Lib.hid fun wr hb =>
      refSize_any (.mk k n s l) (by omega) (by omega) wr 0 r0 c0 (VA wr hb)
    have HCHK : Hid (∀ wr, Below w.heap.size w wr → Calls Try.prog 16 #[.agg #[.int .i64 k, .int .i64 n, .string s, .slice r0 l.length c0]] wr fun e w' => e = .returned (.int .i64 (errV (.mk k n s l))) ∧ Below wr.heap.size wr w') := Lib.hid fun wr hb =>
      check_any (.mk k n s l) (by omega) wr 0 r0 c0 (VA wr hb)
    have HRCHK : Hid (∀ wr, Below w.heap.size w wr → Calls Try.prog 17 #[.agg #[.int .i64 k, .int .i64 n, .string s, .slice r0 l.length c0]] wr fun e w' => e = .returned (.int .i64 (errV (.mk k n s l))) ∧ Below wr.heap.size wr w') := Lib.hid fun wr hb =>
      refCheck_any (.mk k n s l) (by omega) wr 0 r0 c0 (VA wr hb)
    clear VA HFEW he hel hr hfew hfit
    generalize (if errV (.mk k n s l) = 0 then enc (.mk k n s l) else []) = en at *
    generalize (if errV (.mk k n s l) = 0 then ((enc (.mk k n s l)).length : Int) else 0) = sz at *
    generalize errV (.mk k n s l) = er at *
    generalize l.length = ll at *
    go_enter Try.func3, Try.ntmps3
    go_wp2_with fail
    go_at_call 10
    refine (sane_any _).mono ?_
    rintro e w1 ⟨rfl, hb⟩
    have HI1 := Lib.hid (HI0.out.step hb); clear hb HI0
    obtain ⟨x0, d0, d1, d2, d3⟩ := HI1.out.2
    go_wp2_with fail
    go_at_call 11
    refine (HFEW2.out w1 HI1.out.1).mono ?_
    rintro e w2 ⟨rfl, hb⟩
    have HI2 := Lib.hid (HI1.out.step hb); clear hb HI1 x0 d0 d1 d2 d3
    obtain ⟨x0, d0, d1, d2, d3⟩ := HI2.out.2
    go_wp2_with fail
    go_at_call 12
    refine (HENC.out w2 HI2.out.1).mono ?_
    rintro e w3 ⟨hb, q3, m3, cc3, rfl, hq3, rfl⟩
    have HI3 := Lib.hid (HI2.out.step hb); clear hb HI2 x0 d0 d1 d2 d3
    obtain ⟨x0, d0, d1, d2, d3⟩ := HI3.out.2
    have HQ3 := Lib.hid hq3
    clear hq3
    go_wp2_with fail
    go_at_call 13
    refine (HREN.out w3 HI3.out.1).mono ?_
    rintro e w4 ⟨hb, q4, m4, cc4, rfl, hq4, rfl⟩
    have HI4 := Lib.hid (HI3.out.step hb)
    have HQ3 := Lib.hid (HQ3.out.below hb)
    clear hb HI3 x0 d0 d1 d2 d3
    obtain ⟨x0, d0, d1, d2, d3⟩ := HI4.out.2
    have HQ4 := Lib.hid hq4
    clear hq4
    go_wp2_with fail
    go_at_call 14
    refine (HSZ.out w4 HI4.out.1).mono ?_
    rintro e w5 ⟨rfl, hb⟩
    have HI5 := Lib.hid (HI4.out.step hb)
    have HQ3 := Lib.hid (HQ3.out.below hb)
    have HQ4 := Lib.hid (HQ4.out.below hb)
    clear hb HI4 x0 d0 d1 d2 d3
    obtain ⟨x0, d0, d1, d2, d3⟩ := HI5.out.2
    go_wp2_with fail
    go_at_call 15
    refine (HRSZ.out w5 HI5.out.1).mono ?_
    rintro e w6 ⟨rfl, hb⟩
    have HI6 := Lib.hid (HI5.out.step hb)
    have HQ3 := Lib.hid (HQ3.out.below hb)
    have HQ4 := Lib.hid (HQ4.out.below hb)
    clear hb HI5 x0 d0 d1 d2 d3 HFEW2 HENC HREN HSZ HRSZ
    obtain ⟨x0, d0, d1, d2, d3⟩ := HI6.out.2
    have HW6 := Lib.hid HI6.out.1
    have HX := Lib.hid HI6.out.2
    have HBE := Lib.hid (Below.refl w6.heap.size w6)
    clear HI6
    go_wp2_with fail
    go_region_held3 (fun w' => w'.cell? ⟨w.heap.size, 0, none⟩ = some (.int .i64 k) ∧ w'.cell? ⟨w.heap.size, 1, none⟩ = some (.int .i64 n) ∧ w'.cell? ⟨w.heap.size, 2, none⟩ = some (.string s) ∧ w'.cell? ⟨w.heap.size, 3, none⟩ = some (.slice r0 ll c0) ∧ (convert 27 9 (.slice q3 en.length cc3)).run Try.prog w' = .ok (.string ⟨en.toArray⟩) w' ∧ (convert 27 9 (.slice q4 en.length cc4)).run Try.prog w' = .ok (.string ⟨en.toArray⟩) w' ∧ Hid (Below w6.heap.size w6 w'))
      (first
        | with_reducible exact keep6 HX.out HQ3.out HQ4.out HBE.out.drew
        | with_reducible exact keep6 HX.out HQ3.out HQ4.out HBE.out
        | with_reducible exact keep6 HX.out HQ3.out HQ4.out ((held6 (by assumption)).trans (hb1.mono (held6 (by assumption)).size))
        | with_reducible exact keep6 HX.out HQ3.out HQ4.out ((held6 (by assumption)).trans (hb2.mono (held6 (by assumption)).size))
        | assumption)
      (first
        | (go_at_call 16; with_reducible refine (HCHK.out _ (HW6.out.trans ((held6 (W := w6) (by assumption)).mono HW6.out.size))).mono ?_; rintro e w' ⟨rfl, hb1⟩)
        | (go_at_call 17; with_reducible refine (HRCHK.out _ (HW6.out.trans ((held6 (W := w6) (by assumption)).mono HW6.out.size))).mono ?_; rintro e w' ⟨rfl, hb2⟩))
    all_goals (go_wp2_with fail; go_ret; exact ⟨by simp, HW6.out.trans ((held6 (W := w6) (by assumption)).mono HW6.out.size)⟩)
  · have HFEW2 : Hid (∀ wr, Below w.heap.size w wr → Calls Try.prog 11 #[.slice (some ⟨wr.heap.size, 0, none⟩) 1 1] (wr.alloc (.cells #[.int .i64 k, .int .i64 n, .string s, .slice r0 l.length c0] 24)) fun e w' => e = .returned (.bool false) ∧ Below wr.heap.size wr w') := Lib.hid fun wr hb => by
      have := HFEW.out wr hb
      rwa [decide_eq_false hfew] at this
    clear HFEW VA
    generalize l.length = ll at *
    go_enter Try.func3, Try.ntmps3
    go_wp2_with fail
    go_at_call 10
    refine (sane_any _).mono ?_
    rintro e w1 ⟨rfl, hb⟩
    have HI1 := Lib.hid (HI0.out.step hb); clear hb HI0
    obtain ⟨x0, d0, d1, d2, d3⟩ := HI1.out.2
    go_wp2_with fail
    go_at_call 11
    refine (HFEW2.out w1 HI1.out.1).mono ?_
    rintro e w2 ⟨rfl, hb⟩
    have HI2 := Lib.hid (HI1.out.step hb); clear hb
    go_wp2_with fail
    go_ret
    exact ⟨rfl, HI2.out.1⟩


set_option maxHeartbeats 1000000 in
set_option maxRecDepth 100000 in
theorem lifted (os : Os) (started : os.Started) (H : Type) (enc : TypeId × Value → H) :
    ReturnsInHanded {} Try.checked os 3 .any (Rows.codecEncodeSpecSpec.pre6 enc Try.prog Try.f3 Rows.codecEncodeSpecRow.domain false) (Rows.codecEncodeSpecSpec.post enc Try.prog Try.f3 false true false false) := by
  refine returnsInHanded_of_change_sized (C := Try.checked) own' started (by kernel_rfl) Try.func3
    (ChangeSpec.witness6 (enc := enc) (C := Try.checked) false ⟨#[], #[.agg #[.int .i64 0, .int .i64 0, .string ⟨#[]⟩, .slice none 0 0]], []⟩ 8 (by kernel_rfl) (by kernel_rfl) (by kernel_rfl) (by kernel_rfl)) ?_
  intro W base args ds gs before hval0 hW _ hsz0 _
  have hsz : (DataW.weightsEach Try.prog (Try.f3.params.toList ++ Rows.codecEncodeSpecSpec.plain.varTypes Try.prog) (ds ++ gs)).all (· ≤ reachBytes) = true := hsz0
  clear hsz0
  have hval : ∀ (j : Nat) t v, Try.f3.params[j]? = some t → args[j]? = some v → Value.okWide Try.prog W .any base t v := hval0
  have hW' := hW
  obtain ⟨p, q, hA0, hV, rfl, _, _⟩ := hW
  have hA : DataW.TrodAll enc Try.prog W 0 (fun _ => true) true Try.f3.params.toList args.toList ds p := hA0
  rw [Try.params3] at hA hval hsz
  obtain ⟨v0, d0, rfl, rfl, h0⟩ := trodAll_one hA
  obtain ⟨rfl, rfl⟩ := trodVars_none hV
  have h0k := h0
  have sz0 : ∀ n ∈ d0.weights Try.prog 24, n ≤ reachBytes := fun n hn => by
    have := List.all_eq_true.1 hsz n (DataW.weights_mem_each (j := 0) (t := 24) (d := d0) rfl rfl n hn)
    simpa using this
  obtain ⟨u0, r0, c0, rfl, s0⟩ := open_value (hval 0 24 v0 rfl rfl) h0 sz0
  clear hA0 hval0
  simp only [List.append_nil] at hW'
  have lt0 : ∀ y ∈ p, y.block < W.heap.size := fun y hy => by simpa using hW'.lt y (by simp [hy])
  refine (walk W u0 r0 c0 s0).mono fun e W' ⟨he, hn⟩ => ?_
  subst he
  exact ⟨_, rfl, _, _, _, [], _, [], hW', trodAll_mk1 (shut_bool Try.underlying4 _), trodAll_mk1 (Below.trod laidOut (by kernel_rfl) (of_decide_eq_true (by kernel_rfl)) h0k hn lt0), rfl, hn.frame _, fun h => by cases h⟩

theorem over : Rows.codecEncodeSpecRow.holds Try.pinned (OpenSpec.ofChange Rows.codecEncodeSpecSpec) :=
  OpenClaim.holds_of_wide 3 Try.f3 rfl rfl rfl rfl rfl rfl rfl ⟨rfl, rfl, rfl, rfl, rfl⟩ rfl rfl rfl rfl rfl (by kernel_rfl) Try.func3 (by kernel_rfl)
    (of_decide_eq_true (by kernel_rfl)) (by unfold Func.isWrapper; first | (rw [if_pos (by decide +kernel)]; kernel_rfl) | (rw [if_neg (by decide +kernel)]; exact ⟨rfl, rfl⟩))
    (fun os started H enc _ => lifted os started H enc)

theorem proved : Rows.CodecEncodeSpecSaid := over
#print axioms proved
end Go.Proofs.Ytopkpdaingmmeaa.codecEncodeSpec
