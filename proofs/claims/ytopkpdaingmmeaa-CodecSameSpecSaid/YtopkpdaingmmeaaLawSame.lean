/- CodecSameSpec: the law returns true for all arguments, without any condition. -/
import Derived.Test.YtopkpdaingmmeaaVLaw
import Derived.Deep.Light
import Derived.Deep.RegionHeld3
namespace Go.Proofs.Ytopkpdaingmmeaa.codecSameSpec
open Go.ChangeShapes Go.WideShapes Go.ChangeAt Go.RowKit Go.Deep

/-- What stands while the law runs: the input's memory, and the parameters' boxes. -/
def Inv2 (w : World) (k n : Int) (s : ByteArray) (sl : Value) (k' n' : Int) (s' : ByteArray) (sl' : Value) (wr : World) : Prop := Below w.heap.size w wr ∧ Box wr w.heap.size k n s sl ∧ Box wr (w.heap.size + 1) k' n' s' sl'
theorem Inv2.step {w wr w' : World} {k n : Int} {s : ByteArray} {sl : Value} {k' n' : Int} {s' : ByteArray} {sl' : Value} (h : Inv2 w k n s sl k' n' s' sl' wr) (hb : Below wr.heap.size wr w') : Inv2 w k n s sl k' n' s' sl' w' := ⟨h.1.trans (hb.mono h.1.size), h.2.1.bel hb h.2.1.lt, h.2.2.bel hb h.2.2.lt⟩
theorem Inv2.start (w : World) (k n : Int) (s : ByteArray) (sl : Value) (k' n' : Int) (s' : ByteArray) (sl' : Value) : Inv2 w k n s sl k' n' s' sl' ((w.alloc (.cells #[.int .i64 k, .int .i64 n, .string s, sl] 24)).alloc (.cells #[.int .i64 k', .int .i64 n', .string s', sl'] 24)) := by
  have hb := (Below.refl w.heap.size w).alloc (Nat.le_refl _) (.cells #[.int .i64 k, .int .i64 n, .string s, sl] 24)
  refine ⟨hb.alloc hb.size _, (Box.new w k n s sl).bel ((Below.refl _ _).alloc (Nat.le_refl _) _) (by simp), ?_⟩
  have := Box.new (w.alloc (.cells #[.int .i64 k, .int .i64 n, .string s, sl] 24)) k' n' s' sl'
  rwa [World.size_alloc] at this

theorem keep8 {W w9 : World} {b1 b2 : Nat} {k n k' n' : Int} {s s' : ByteArray} {sl sl' : Value} (hx : Box W b1 k n s sl) (hy : Box W b2 k' n' s' sl') (h : Below W.heap.size W w9) :
    w9.cell? ⟨b1, 0, none⟩ = some (.int .i64 k) ∧ w9.cell? ⟨b1, 1, none⟩ = some (.int .i64 n) ∧ w9.cell? ⟨b1, 2, none⟩ = some (.string s) ∧ w9.cell? ⟨b1, 3, none⟩ = some sl ∧ w9.cell? ⟨b2, 0, none⟩ = some (.int .i64 k') ∧ w9.cell? ⟨b2, 1, none⟩ = some (.int .i64 n') ∧ w9.cell? ⟨b2, 2, none⟩ = some (.string s') ∧ w9.cell? ⟨b2, 3, none⟩ = some sl' ∧ Hid (Below W.heap.size W w9) := by
  obtain ⟨_, a0, a1, a2, a3⟩ := hx.bel h hx.lt
  obtain ⟨_, c0, c1, c2, c3⟩ := hy.bel h hy.lt
  exact ⟨a0, a1, a2, a3, c0, c1, c2, c3, Lib.hid h⟩
theorem held8 {W wc : World} {b1 b2 : Nat} {k n k' n' : Int} {s s' : ByteArray} {sl sl' : Value} (h : wc.cell? ⟨b1, 0, none⟩ = some (.int .i64 k) ∧ wc.cell? ⟨b1, 1, none⟩ = some (.int .i64 n) ∧ wc.cell? ⟨b1, 2, none⟩ = some (.string s) ∧ wc.cell? ⟨b1, 3, none⟩ = some sl ∧ wc.cell? ⟨b2, 0, none⟩ = some (.int .i64 k') ∧ wc.cell? ⟨b2, 1, none⟩ = some (.int .i64 n') ∧ wc.cell? ⟨b2, 2, none⟩ = some (.string s') ∧ wc.cell? ⟨b2, 3, none⟩ = some sl' ∧ Hid (Below W.heap.size W wc)) : Below W.heap.size W wc := h.2.2.2.2.2.2.2.2.out

set_option maxRecDepth 100000 in
set_option maxHeartbeats 8000000 in
theorem walk (w : World) (u0 : V) (r0 : Option Addr) (c0 : Nat) (s0 : VAt w 0 u0 r0 c0) (u1 : V) (r1 : Option Addr) (c1 : Nat) (s1 : VAt w 0 u1 r1 c1) :
    Calls Try.prog 5 #[vV u0 r0 c0, vV u1 r1 c1] w fun e w' => e = .returned (.bool true) ∧ Below w.heap.size w w' := by
  obtain ⟨k, n, s, l⟩ := u0
  obtain ⟨k', n', s', l'⟩ := u1
  have VA : ∀ wr, Below w.heap.size w wr → VAt wr 0 (.mk k n s l) r0 c0 := fun wr hb => s0.bel hb
  have VB : ∀ wr, Below w.heap.size w wr → VAt wr 0 (.mk k' n' s' l') r1 c1 := fun wr hb => s1.bel hb
  have hfit := s0.fits
  have hfit' := s1.fits
  have HS0 := Lib.hid s0
  have HS1 := Lib.hid s1
  have HFEW : Hid (∀ wr, Below w.heap.size w wr → Calls Try.prog 11 #[.slice (some ⟨wr.heap.size, 0, none⟩) 2 2] (wr.alloc (.cells #[.int .i64 k, .int .i64 n, .string s, .slice r0 l.length c0, .int .i64 k', .int .i64 n', .string s', .slice r1 l'.length c1] 24)) fun e w' => e = .returned (.bool (decide (cnt 21 (.mk k n s l) ≤ 200) && decide (cnt 21 (.mk k' n' s' l') ≤ 200))) ∧ Below wr.heap.size wr w') := Lib.hid fun wr hb => by
    have h1 := two_at (VA wr hb) (VB wr hb)
    have hb2 := (Below.refl wr.heap.size wr).alloc (Nat.le_refl _) (.cells #[.int .i64 k, .int .i64 n, .string s, .slice r0 l.length c0, .int .i64 k', .int .i64 n', .string s', .slice r1 l'.length c1] 24)
    refine (few_any [.mk k n s l, .mk k' n' s' l'] _ 0 _ _ h1).mono ?_
    rintro e w' ⟨rfl, hb'⟩
    refine ⟨?_, hb2.trans (hb'.mono hb2.size)⟩
    simp
  have hlen := s0.len
  have hlen' := s1.len
  change l.length ≤ 2600000000000 at hlen
  change l'.length ≤ 2600000000000 at hlen'
  show Calls Try.prog 5 #[.agg #[.int .i64 k, .int .i64 n, .string s, .slice r0 l.length c0], .agg #[.int .i64 k', .int .i64 n', .string s', .slice r1 l'.length c1]] w _
  have HI0 := Lib.hid (Inv2.start w k n s (.slice r0 l.length c0) k' n' s' (.slice r1 l'.length c1))
  clear s0 s1
  by_cases hfew : cnt 21 (.mk k n s l) ≤ 200 ∧ cnt 21 (.mk k' n' s' l') ≤ 200
  · obtain ⟨hr, he, _⟩ := cnt_small 21 _ hfit hfew.1
    obtain ⟨hr', he', _⟩ := cnt_small 21 _ hfit' hfew.2
    have HFEW2 : Hid (∀ wr, Below w.heap.size w wr → Calls Try.prog 11 #[.slice (some ⟨wr.heap.size, 0, none⟩) 2 2] (wr.alloc (.cells #[.int .i64 k, .int .i64 n, .string s, .slice r0 l.length c0, .int .i64 k', .int .i64 n', .string s', .slice r1 l'.length c1] 24)) fun e w' => e = .returned (.bool true) ∧ Below wr.heap.size wr w') := Lib.hid fun wr hb => by
      have := HFEW.out wr hb
      rwa [decide_eq_true hfew.1, decide_eq_true hfew.2] at this
    have HSAME : Hid (∀ wr, Below w.heap.size w wr → Calls Try.prog 21 #[.agg #[.int .i64 k, .int .i64 n, .string s, .slice r0 l.length c0], .agg #[.int .i64 k', .int .i64 n', .string s', .slice r1 l'.length c1]] wr fun e w' => e = .returned (.bool (sm (.mk k n s l) (.mk k' n' s' l'))) ∧ Below wr.heap.size wr w') := Lib.hid fun wr hb =>
      same_rank 21 (.mk k n s l) (.mk k' n' s' l') hr wr 0 0 r0 r1 c0 c1 (VA wr hb) (VB wr hb)
    have HRS : Hid (∀ wr, Below w.heap.size w wr → Calls Try.prog 20 #[.agg #[.int .i64 k, .int .i64 n, .string s, .slice r0 l.length c0], .agg #[.int .i64 k', .int .i64 n', .string s', .slice r1 l'.length c1]] wr fun e w' => e = .returned (.bool (sm (.mk k n s l) (.mk k' n' s' l'))) ∧ Below wr.heap.size wr w') := Lib.hid fun wr hb =>
      rsame_rank 21 (.mk k n s l) (.mk k' n' s' l') hr wr 0 0 r0 r1 c0 c1 (VA wr hb) (VB wr hb)
    have HSA : Hid (∀ wr, Below w.heap.size w wr → Calls Try.prog 21 #[.agg #[.int .i64 k, .int .i64 n, .string s, .slice r0 l.length c0], .agg #[.int .i64 k, .int .i64 n, .string s, .slice r0 l.length c0]] wr fun e w' => e = .returned (.bool true) ∧ Below wr.heap.size wr w') := Lib.hid fun wr hb => by
      have := same_rank 21 (.mk k n s l) (.mk k n s l) hr wr 0 0 r0 r0 c0 c0 (VA wr hb) (VA wr hb)
      rwa [sm_yes rfl] at this
    have HSB : Hid (∀ wr, Below w.heap.size w wr → Calls Try.prog 21 #[.agg #[.int .i64 k', .int .i64 n', .string s', .slice r1 l'.length c1], .agg #[.int .i64 k', .int .i64 n', .string s', .slice r1 l'.length c1]] wr fun e w' => e = .returned (.bool true) ∧ Below wr.heap.size wr w') := Lib.hid fun wr hb => by
      have := same_rank 21 (.mk k' n' s' l') (.mk k' n' s' l') hr' wr 0 0 r1 r1 c1 c1 (VB wr hb) (VB wr hb)
      rwa [sm_yes rfl] at this
    clear VA VB HFEW he he' hr hr' hfew hfit hfit' HS0 HS1
    generalize sm (.mk k n s l) (.mk k' n' s' l') = f at *
    generalize l.length = ll at *
    generalize l'.length = ll' at *
    go_enter Try.func5, Try.ntmps5
    go_wp2_with fail
    go_at_call 10
    refine (sane_any _).mono ?_
    rintro e w1 ⟨rfl, hb⟩
    have HI1 := Lib.hid (HI0.out.step hb); clear hb HI0
    obtain ⟨⟨x0, d0, d1, d2, d3⟩, ⟨y0, y1, y2, y3, y4⟩⟩ := HI1.out.2
    go_wp2_with fail
    go_at_call 11
    refine (HFEW2.out w1 HI1.out.1).mono ?_
    rintro e w2 ⟨rfl, hb⟩
    have HI2 := Lib.hid (HI1.out.step hb); clear hb HI1 x0 d0 d1 d2 d3 y0 y1 y2 y3 y4
    obtain ⟨⟨x0, d0, d1, d2, d3⟩, ⟨y0, y1, y2, y3, y4⟩⟩ := HI2.out.2
    have HW2 := Lib.hid HI2.out.1
    have HX := Lib.hid HI2.out.2.1
    have HY := Lib.hid HI2.out.2.2
    clear HI2 HFEW2
    obtain ⟨W2, hW2⟩ : ∃ W2, W2 = w2 := ⟨_, rfl⟩
    subst hW2
    generalize hbx : w.heap.size + 1 = bq at *
    have HBE := Lib.hid (Below.refl W2.heap.size W2)
    clear hbx
    cases f
    all_goals (
      go_upto_region 5 with (fail)
      go_region_held3 (fun w' => w'.cell? ⟨w.heap.size, 0, none⟩ = some (.int .i64 k) ∧ w'.cell? ⟨w.heap.size, 1, none⟩ = some (.int .i64 n) ∧ w'.cell? ⟨w.heap.size, 2, none⟩ = some (.string s) ∧ w'.cell? ⟨w.heap.size, 3, none⟩ = some (.slice r0 ll c0) ∧ w'.cell? ⟨bq, 0, none⟩ = some (.int .i64 k') ∧ w'.cell? ⟨bq, 1, none⟩ = some (.int .i64 n') ∧ w'.cell? ⟨bq, 2, none⟩ = some (.string s') ∧ w'.cell? ⟨bq, 3, none⟩ = some (.slice r1 ll' c1) ∧ Hid (Below W2.heap.size W2 w'))
        (first
          | with_reducible exact keep8 HX.out HY.out HBE.out.drew
          | with_reducible exact keep8 HX.out HY.out HBE.out
          | with_reducible exact keep8 HX.out HY.out ((held8 (by assumption)).trans (hb1.mono (held8 (by assumption)).size))
          | with_reducible exact keep8 HX.out HY.out ((held8 (by assumption)).trans (hb2.mono (held8 (by assumption)).size))
          | with_reducible exact keep8 HX.out HY.out ((held8 (by assumption)).trans (hb3.mono (held8 (by assumption)).size))
          | with_reducible exact keep8 HX.out HY.out ((held8 (by assumption)).trans (hb4.mono (held8 (by assumption)).size))
          | assumption | go_keep)
        (first
          | (go_at_call 21; with_reducible refine (HSA.out _ (HW2.out.trans ((held8 (W := W2) (by assumption)).mono HW2.out.size))).mono ?_; rintro e w' ⟨rfl, hb3⟩)
          | (go_at_call 21; with_reducible refine (HSB.out _ (HW2.out.trans ((held8 (W := W2) (by assumption)).mono HW2.out.size))).mono ?_; rintro e w' ⟨rfl, hb4⟩)
          | (go_at_call 21; with_reducible refine (HSAME.out _ (HW2.out.trans ((held8 (W := W2) (by assumption)).mono HW2.out.size))).mono ?_; rintro e w' ⟨rfl, hb1⟩)
          | (go_at_call 20; with_reducible refine (HRS.out _ (HW2.out.trans ((held8 (W := W2) (by assumption)).mono HW2.out.size))).mono ?_; rintro e w' ⟨rfl, hb2⟩))
      all_goals (go_wp2_with fail; go_ret; exact ⟨by simp, HW2.out.trans ((held8 (W := W2) (by assumption)).mono HW2.out.size)⟩))
  · have HFEW2 : Hid (∀ wr, Below w.heap.size w wr → Calls Try.prog 11 #[.slice (some ⟨wr.heap.size, 0, none⟩) 2 2] (wr.alloc (.cells #[.int .i64 k, .int .i64 n, .string s, .slice r0 l.length c0, .int .i64 k', .int .i64 n', .string s', .slice r1 l'.length c1] 24)) fun e w' => e = .returned (.bool false) ∧ Below wr.heap.size wr w') := Lib.hid fun wr hb => by
      have := HFEW.out wr hb
      rwa [show (decide (cnt 21 (.mk k n s l) ≤ 200) && decide (cnt 21 (.mk k' n' s' l') ≤ 200)) = false by rw [Bool.and_eq_false_iff, decide_eq_false_iff_not, decide_eq_false_iff_not]; omega] at this
    clear HFEW VA VB
    generalize l.length = ll at *
    generalize l'.length = ll' at *
    go_enter Try.func5, Try.ntmps5
    go_wp2_with fail
    go_at_call 10
    refine (sane_any _).mono ?_
    rintro e w1 ⟨rfl, hb⟩
    have HI1 := Lib.hid (HI0.out.step hb); clear hb HI0
    obtain ⟨⟨x0, d0, d1, d2, d3⟩, ⟨y0, y1, y2, y3, y4⟩⟩ := HI1.out.2
    go_wp2_with fail
    go_at_call 11
    refine (HFEW2.out w1 HI1.out.1).mono ?_
    rintro e w2 ⟨rfl, hb⟩
    have HI2 := Lib.hid (HI1.out.step hb); clear hb
    go_wp2_with fail
    go_ret
    exact ⟨rfl, HI2.out.1⟩


set_option maxHeartbeats 1000000 in
set_option maxRecDepth 100000 in
theorem lifted (os : Os) (started : os.Started) (H : Type) (enc : TypeId × Value → H) :
    ReturnsInHanded {} Try.checked os 5 .any (Rows.codecSameSpecSpec.pre6 enc Try.prog Try.f5 Rows.codecSameSpecRow.domain false) (Rows.codecSameSpecSpec.post enc Try.prog Try.f5 false true false false) := by
  refine returnsInHanded_of_change_sized (C := Try.checked) own' started (by kernel_rfl) Try.func5
    (ChangeSpec.witness6 (enc := enc) (C := Try.checked) false ⟨#[], #[.agg #[.int .i64 0, .int .i64 0, .string ⟨#[]⟩, .slice none 0 0], .agg #[.int .i64 0, .int .i64 0, .string ⟨#[]⟩, .slice none 0 0]], []⟩ 8 (by kernel_rfl) (by kernel_rfl) (by kernel_rfl) (by kernel_rfl)) ?_
  intro W base args ds gs before hval0 hW _ hsz0 _
  have hsz : (DataW.weightsEach Try.prog (Try.f5.params.toList ++ Rows.codecSameSpecSpec.plain.varTypes Try.prog) (ds ++ gs)).all (· ≤ reachBytes) = true := hsz0
  clear hsz0
  have hval : ∀ (j : Nat) t v, Try.f5.params[j]? = some t → args[j]? = some v → Value.okWide Try.prog W .any base t v := hval0
  have hW' := hW
  obtain ⟨p, q, hA0, hV, rfl, _, _⟩ := hW
  have hA : DataW.TrodAll enc Try.prog W 0 (fun _ => true) true Try.f5.params.toList args.toList ds p := hA0
  rw [Try.params5] at hA hval hsz
  obtain ⟨v0, v1, d0, d1, p0, p1, rfl, rfl, rfl, h0, h1⟩ := trodAll_two hA
  obtain ⟨rfl, rfl⟩ := trodVars_none hV
  have h0k := h0
  have sz0 : ∀ n ∈ d0.weights Try.prog 24, n ≤ reachBytes := fun n hn => by
    have := List.all_eq_true.1 hsz n (DataW.weights_mem_each (j := 0) (t := 24) (d := d0) rfl rfl n hn)
    simpa using this
  have h1k := h1
  have sz1 : ∀ n ∈ d1.weights Try.prog 24, n ≤ reachBytes := fun n hn => by
    have := List.all_eq_true.1 hsz n (DataW.weights_mem_each (j := 1) (t := 24) (d := d1) rfl rfl n hn)
    simpa using this
  obtain ⟨u0, r0, c0, rfl, s0⟩ := open_value (hval 0 24 v0 rfl rfl) h0 sz0
  obtain ⟨u1, r1, c1, rfl, s1⟩ := open_value (hval 1 24 v1 rfl rfl) h1 sz1
  clear hA0 hval0
  simp only [List.append_nil] at hW'
  have lt0 : ∀ y ∈ p0, y.block < W.heap.size := fun y hy => by simpa using hW'.lt y (by simp [hy])
  have lt1 : ∀ y ∈ p1, y.block < W.heap.size := fun y hy => by simpa using hW'.lt y (by simp [hy])
  refine (walk W u0 r0 c0 s0 u1 r1 c1 s1).mono fun e W' ⟨he, hn⟩ => ?_
  subst he
  exact ⟨_, rfl, _, _, _, [], _, [], hW', trodAll_mk1 (shut_bool Try.underlying4 _), trodAll_mk2 (Below.trod laidOut (by kernel_rfl) (of_decide_eq_true (by kernel_rfl)) h0k hn lt0) (Below.trod laidOut (by kernel_rfl) (of_decide_eq_true (by kernel_rfl)) h1k hn lt1), rfl, hn.frame _, fun h => by cases h⟩

theorem over : Rows.codecSameSpecRow.holds Try.pinned (OpenSpec.ofChange Rows.codecSameSpecSpec) :=
  OpenClaim.holds_of_wide 5 Try.f5 rfl rfl rfl rfl rfl rfl rfl ⟨rfl, rfl, rfl, rfl, rfl⟩ rfl rfl rfl rfl rfl (by kernel_rfl) Try.func5 (by kernel_rfl)
    (of_decide_eq_true (by kernel_rfl)) (by unfold Func.isWrapper; first | (rw [if_pos (by decide +kernel)]; kernel_rfl) | (rw [if_neg (by decide +kernel)]; exact ⟨rfl, rfl⟩))
    (fun os started H enc _ => lifted os started H enc)

theorem proved : Rows.CodecSameSpecSaid := over
#print axioms proved
end Go.Proofs.Ytopkpdaingmmeaa.codecSameSpec
