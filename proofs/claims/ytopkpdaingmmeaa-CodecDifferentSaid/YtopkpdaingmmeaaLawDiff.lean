/- CodecDifferent: the law returns true for all arguments, without any condition. -/
import Derived.Test.YtopkpdaingmmeaaVLaw
import Derived.Deep.Light
namespace Go.Proofs.Ytopkpdaingmmeaa.codecDifferent
open Go.ChangeShapes Go.WideShapes Go.ChangeAt Go.RowKit Go.Deep

theorem BAt.take {w : World} {B : Nat} {p : Option Addr} {l : List UInt8} (h : BAt w B p l) (m : Nat) : BAt w B p (l.take m) := by
  refine ⟨by have := h.len; rw [List.length_take]; omega, fun hne => ?_⟩
  obtain ⟨b, off, e1, e2, e3, e4⟩ := h.at' (by rintro rfl; simp at hne)
  exact ⟨b, off, e1, e2, e3, fun i hi => by rw [List.getElem_take]; exact e4 i (by rw [List.length_take] at hi; omega)⟩
theorem BAt.drewN {w : World} {B : Nat} {p : Option Addr} {l : List UInt8} (h : BAt w B p l) (j : Nat) : BAt (w.drewN j) B p l := h.below (below_drewN (Below.refl _ w) j)
/-- What stands while the law runs: the input's memory, and the parameters' boxes. -/
def Inv2 (w : World) (k n : Int) (s : ByteArray) (sl : Value) (k' n' : Int) (s' : ByteArray) (sl' : Value) (wr : World) : Prop := Below w.heap.size w wr ∧ Box wr w.heap.size k n s sl ∧ Box wr (w.heap.size + 1) k' n' s' sl'
theorem Inv2.step {w wr w' : World} {k n : Int} {s : ByteArray} {sl : Value} {k' n' : Int} {s' : ByteArray} {sl' : Value} (h : Inv2 w k n s sl k' n' s' sl' wr) (hb : Below wr.heap.size wr w') : Inv2 w k n s sl k' n' s' sl' w' := ⟨h.1.trans (hb.mono h.1.size), h.2.1.bel hb h.2.1.lt, h.2.2.bel hb h.2.2.lt⟩
theorem Inv2.start (w : World) (k n : Int) (s : ByteArray) (sl : Value) (k' n' : Int) (s' : ByteArray) (sl' : Value) : Inv2 w k n s sl k' n' s' sl' ((w.alloc (.cells #[.int .i64 k, .int .i64 n, .string s, sl] 24)).alloc (.cells #[.int .i64 k', .int .i64 n', .string s', sl'] 24)) := by
  have hb := (Below.refl w.heap.size w).alloc (Nat.le_refl _) (.cells #[.int .i64 k, .int .i64 n, .string s, sl] 24)
  refine ⟨hb.alloc hb.size _, (Box.new w k n s sl).bel ((Below.refl _ _).alloc (Nat.le_refl _) _) (by simp), ?_⟩
  have := Box.new (w.alloc (.cells #[.int .i64 k, .int .i64 n, .string s, sl] 24)) k' n' s' sl'
  rwa [World.size_alloc] at this
theorem not_prefix {v u : V} (hv : Good 16 v) (hu : Good 16 u) (hne : v ≠ u) (m : Nat) (hm : m = min (enc v).length (enc u).length) : (enc v).take m ≠ (enc u).take m := by
  intro h
  rcases Nat.le_total (enc v).length (enc u).length with hle | hle
  · rw [hm, Nat.min_eq_left hle, List.take_of_length_le (Nat.le_refl _)] at h
    have e := List.take_append_drop (enc v).length (enc u)
    rw [← h] at e
    exact hne (enc_inj hv hu (r := (enc u).drop (enc v).length) (r' := []) (by rw [e, List.append_nil])).1
  · rw [hm, Nat.min_eq_right hle, List.take_of_length_le (l := enc u) (Nat.le_refl _)] at h
    have e := List.take_append_drop (enc u).length (enc v)
    rw [h] at e
    exact hne (enc_inj hv hu (r := []) (r' := (enc v).drop (enc u).length) (by rw [e, List.append_nil])).1

set_option maxRecDepth 100000 in
set_option maxHeartbeats 8000000 in
theorem walk (w : World) (u0 : V) (r0 : Option Addr) (c0 : Nat) (s0 : VAt w 0 u0 r0 c0) (u1 : V) (r1 : Option Addr) (c1 : Nat) (s1 : VAt w 0 u1 r1 c1) :
    Calls Try.prog 7 #[vV u0 r0 c0, vV u1 r1 c1] w fun e w' => e = .returned (.bool true) ∧ Below w.heap.size w w' := by
  obtain ⟨k, n, s, l⟩ := u0
  obtain ⟨k', n', s', l'⟩ := u1
  have VA : ∀ wr, Below w.heap.size w wr → VAt wr 0 (.mk k n s l) r0 c0 := fun wr hb => s0.bel hb
  have VB : ∀ wr, Below w.heap.size w wr → VAt wr 0 (.mk k' n' s' l') r1 c1 := fun wr hb => s1.bel hb
  have hfit := s0.fits
  have hfit' := s1.fits
  have HS0 := Lib.hid s0
  have HS1 := Lib.hid s1
  have HFEW : Hid (∀ wr, Below w.heap.size w wr → Calls Try.prog 11 #[.slice (some ⟨wr.heap.size, 0, none⟩) 2 2] (wr.alloc (.cells #[.int .i64 k, .int .i64 n, .string s, .slice r0 l.length c0, .int .i64 k', .int .i64 n', .string s', .slice r1 l'.length c1] 24)) fun e w' => e = .returned (.bool (decide (cnt 21 (.mk k n s l) ≤ 200) && decide (cnt 21 (.mk k' n' s' l') ≤ 200))) ∧ Below wr.heap.size wr w') := Lib.hid fun wr hb => by
    have h1 := two_at (VA wr hb) (VB wr hb)
    have hb2 := (Below.refl wr.heap.size wr).alloc (Nat.le_refl _) (.cells #[.int .i64 k, .int .i64 n, .string s, .slice r0 l.length c0, .int .i64 k', .int .i64 n', .string s', .slice r1 l'.length c1] 24)
    refine (few_any [.mk k n s l, .mk k' n' s' l'] _ 0 _ _ h1).mono ?_
    rintro e w' ⟨rfl, hb'⟩
    refine ⟨?_, hb2.trans (hb'.mono hb2.size)⟩
    simp
  have hlen := s0.len
  have hlen' := s1.len
  change l.length ≤ 2600000000000 at hlen
  change l'.length ≤ 2600000000000 at hlen'
  show Calls Try.prog 7 #[.agg #[.int .i64 k, .int .i64 n, .string s, .slice r0 l.length c0], .agg #[.int .i64 k', .int .i64 n', .string s', .slice r1 l'.length c1]] w _
  have HI0 := Lib.hid (Inv2.start w k n s (.slice r0 l.length c0) k' n' s' (.slice r1 l'.length c1))
  clear s0 s1
  by_cases hfew : cnt 21 (.mk k n s l) ≤ 200 ∧ cnt 21 (.mk k' n' s' l') ≤ 200
  · obtain ⟨hr, he, _⟩ := cnt_small 21 _ hfit hfew.1
    obtain ⟨hr', he', _⟩ := cnt_small 21 _ hfit' hfew.2
    have hel : (enc (.mk k n s l)).length ≤ 1000000 := by omega
    have hel' : (enc (.mk k' n' s' l')).length ≤ 1000000 := by omega
    have HFEW2 : Hid (∀ wr, Below w.heap.size w wr → Calls Try.prog 11 #[.slice (some ⟨wr.heap.size, 0, none⟩) 2 2] (wr.alloc (.cells #[.int .i64 k, .int .i64 n, .string s, .slice r0 l.length c0, .int .i64 k', .int .i64 n', .string s', .slice r1 l'.length c1] 24)) fun e w' => e = .returned (.bool true) ∧ Below wr.heap.size wr w') := Lib.hid fun wr hb => by
      have := HFEW.out wr hb
      rwa [decide_eq_true hfew.1, decide_eq_true hfew.2] at this
    have HENC : Hid (∀ wr, Below w.heap.size w wr → Calls Try.prog 12 #[.agg #[.int .i64 k, .int .i64 n, .string s, .slice r0 l.length c0]] wr fun e w' => Below wr.heap.size wr w' ∧ ∃ q m c, e = .returned (.tuple #[.slice q m c, .int .i64 (errV (.mk k n s l))]) ∧ BAt w' wr.heap.size q (if errV (.mk k n s l) = 0 then enc (.mk k n s l) else []) ∧ m = (if errV (.mk k n s l) = 0 then enc (.mk k n s l) else []).length ∧ (q = none → c = 0) ∧ m ≤ c ∧ c ≤ 9223372036854775807) := Lib.hid fun wr hb =>
      encode_any (.mk k n s l) (by omega) (fun _ => by omega) wr 0 r0 c0 (VA wr hb)
    have HENC' : Hid (∀ wr, Below w.heap.size w wr → Calls Try.prog 12 #[.agg #[.int .i64 k', .int .i64 n', .string s', .slice r1 l'.length c1]] wr fun e w' => Below wr.heap.size wr w' ∧ ∃ q m c, e = .returned (.tuple #[.slice q m c, .int .i64 (errV (.mk k' n' s' l'))]) ∧ BAt w' wr.heap.size q (if errV (.mk k' n' s' l') = 0 then enc (.mk k' n' s' l') else []) ∧ m = (if errV (.mk k' n' s' l') = 0 then enc (.mk k' n' s' l') else []).length ∧ (q = none → c = 0) ∧ m ≤ c ∧ c ≤ 9223372036854775807) := Lib.hid fun wr hb =>
      encode_any (.mk k' n' s' l') (by omega) (fun _ => by omega) wr 0 r1 c1 (VB wr hb)
    have HSAME : Hid (∀ wr, Below w.heap.size w wr → Calls Try.prog 21 #[.agg #[.int .i64 k, .int .i64 n, .string s, .slice r0 l.length c0], .agg #[.int .i64 k', .int .i64 n', .string s', .slice r1 l'.length c1]] wr fun e w' => e = .returned (.bool (sm (.mk k n s l) (.mk k' n' s' l'))) ∧ Below wr.heap.size wr w') := Lib.hid fun wr hb =>
      same_rank 21 (.mk k n s l) (.mk k' n' s' l') hr wr 0 0 r0 r1 c0 c1 (VA wr hb) (VB wr hb)
    have HG : Hid (errV (.mk k n s l) = 0 → Good 16 (.mk k n s l)) := Lib.hid fun h => good_of HS0.out h
    have HG' : Hid (errV (.mk k' n' s' l') = 0 → Good 16 (.mk k' n' s' l')) := Lib.hid fun h => good_of HS1.out h
    clear VA VB HFEW he he' hr hr' hfew hfit hfit' HS0 HS1
    generalize V.mk k n s l = v at *
    generalize V.mk k' n' s' l' = u at *
    generalize l.length = ll at *
    generalize l'.length = ll' at *
    go_enter Try.func7, Try.ntmps7
    go_wp2_with fail
    go_at_call 10
    refine (sane_any _).mono ?_
    rintro e w1 ⟨rfl, hb⟩
    have HI1 := Lib.hid (HI0.out.step hb); clear hb HI0
    obtain ⟨⟨x0, d0, d1, d2, d3⟩, ⟨y0, y1, y2, y3, y4⟩⟩ := HI1.out.2
    go_wp2_with fail
    go_at_call 11
    refine (HFEW2.out w1 HI1.out.1).mono ?_
    rintro e w2 ⟨rfl, hb⟩
    have HI2 := Lib.hid (HI1.out.step hb); clear hb HI1 x0 d0 d1 d2 d3 y0 y1 y2 y3 y4
    obtain ⟨⟨x0, d0, d1, d2, d3⟩, ⟨y0, y1, y2, y3, y4⟩⟩ := HI2.out.2
    go_wp2_with fail
    go_at_call 12
    refine (HENC.out w2 HI2.out.1).mono ?_
    rintro e w3 ⟨hb, q3, m3, cc3, rfl, hq3, hm3, _, hmc3, hcc3⟩
    have HI3 := Lib.hid (HI2.out.step hb); clear hb HI2 x0 d0 d1 d2 d3 y0 y1 y2 y3 y4
    obtain ⟨⟨x0, d0, d1, d2, d3⟩, ⟨y0, y1, y2, y3, y4⟩⟩ := HI3.out.2
    have HQ3 := Lib.hid (And.intro hq3 hm3)
    clear hq3 hm3
    go_wp2_with fail
    go_at_call 12
    refine (HENC'.out w3 HI3.out.1).mono ?_
    rintro e w4 ⟨hb, q4, m4, cc4, rfl, hq4, hm4, _, hmc4, hcc4⟩
    have HI4 := Lib.hid (HI3.out.step hb)
    have HQ3 := Lib.hid (And.intro (HQ3.out.1.below hb) HQ3.out.2)
    clear hb HI3 x0 d0 d1 d2 d3 y0 y1 y2 y3 y4
    obtain ⟨⟨x0, d0, d1, d2, d3⟩, ⟨y0, y1, y2, y3, y4⟩⟩ := HI4.out.2
    have HQ4 := Lib.hid (And.intro hq4 hm4)
    clear hq4 hm4 HFEW2 HENC HENC'
    generalize errV v = er at *
    generalize errV u = er' at *
    by_cases h0 : er = 0
    · by_cases h0' : er' = 0
      · have hg := HG.out h0
        have hg' := HG'.out h0'
        have HA := Lib.hid (show BAt w4 w2.heap.size q3 (enc v) from by have := HQ3.out.1; rwa [if_pos h0] at this)
        have HB := Lib.hid (show BAt w4 w3.heap.size q4 (enc u) from by have := HQ4.out.1; rwa [if_pos h0'] at this)
        have HMA : Hid (m3 = (enc v).length) := Lib.hid (by have := HQ3.out.2; rwa [if_pos h0] at this)
        have HMB : Hid (m4 = (enc u).length) := Lib.hid (by have := HQ4.out.2; rwa [if_pos h0'] at this)
        have HNP := Lib.hid (fun hne => not_prefix hg hg' hne)
        have HSC := Lib.hid (HSAME.out w4 HI4.out.1)
        subst h0 h0'
        clear HQ3 HQ4 hg hg' HG HG' HSAME
        cases hs : sm v u with
        | true =>
          have HEQ := Lib.hid ((sm_iff v u).1 hs)
          rw [hs] at HSC
          clear hs HNP
          go_wp2_with fail
          go_at_call 21
          refine HSC.out.mono ?_
          rintro e w5 ⟨rfl, hb⟩
          have HW5 := Lib.hid (HI4.out.1.trans (hb.mono HI4.out.1.size))
          have hcv := strOf (HA.out.below hb) cc3
          have hcv2 := strOf (HB.out.below hb) cc4
          rw [← HMA.out] at hcv
          rw [← HMB.out, ← HEQ.out] at hcv2
          clear hb
          go_wp2_with fail
          go_ret
          exact ⟨rfl, HW5.out⟩
        | false =>
          have hne : v ≠ u := fun e => by rw [sm_yes e] at hs; cases hs
          have HNE := Lib.hid (HNP.out hne)
          rw [hs] at HSC
          clear hs hne HNP
          go_wp2_with fail
          go_at_call 21
          refine HSC.out.mono ?_
          rintro e w5 ⟨rfl, hb⟩
          have HW5 := Lib.hid (HI4.out.1.trans (hb.mono HI4.out.1.size))
          have HA5 := Lib.hid (HA.out.below hb)
          have HB5 := Lib.hid (HB.out.below hb)
          clear hb
          have hlm : min m3 m4 ≤ (enc v).length := by have := HMA.out; omega
          have hlm' : min m3 m4 ≤ (enc u).length := by have := HMB.out; omega
          have hneq : (⟨((enc v).take (min m3 m4)).toArray⟩ : ByteArray) ≠ ⟨((enc u).take (min m3 m4)).toArray⟩ := fun e => by
            injection e with e
            have e2 := congrArg Array.toList e
            exact HNE.out (min m3 m4) (by rw [HMA.out, HMB.out]) (by simpa using e2)
          have hc0 : ∀ j, (convert 27 9 (.slice q3 (min m3 m4) cc3)).run Try.prog (w5.drewN j) = .ok (.string ⟨((enc v).take (min m3 m4)).toArray⟩) (w5.drewN j) := fun j => by
            have := strOf (BAt.drewN (BAt.take HA5.out (min m3 m4)) j) cc3
            rwa [List.length_take, Nat.min_eq_left hlm] at this
          have hc0' : ∀ j, (convert 27 9 (.slice q4 (min m3 m4) cc4)).run Try.prog (w5.drewN j) = .ok (.string ⟨((enc u).take (min m3 m4)).toArray⟩) (w5.drewN j) := fun j => by
            have := strOf (BAt.drewN (BAt.take HB5.out (min m3 m4)) j) cc4
            rwa [List.length_take, Nat.min_eq_left hlm'] at this
          have hmin : min (m3 : Int) (m4 : Int) = ((min m3 m4 : Nat) : Int) := by omega
          have hk3 : ((min m3 m4 : Nat) : Int) ≤ (cc3 : Int) := by omega
          have hk4 : ((min m3 m4 : Nat) : Int) ≤ (cc4 : Int) := by omega
          have hk5 : min m3 m4 ≤ cc3 := by omega
          have hk6 : min m3 m4 ≤ cc4 := by omega
          generalize (⟨((enc v).take (min m3 m4)).toArray⟩ : ByteArray) = S1 at *
          generalize (⟨((enc u).take (min m3 m4)).toArray⟩ : ByteArray) = S2 at *
          have hne2 : ¬ S1.toList = S2.toList := fun e => hneq ((str_eq _ _).1 e)
          have hmm := Lib.hid hmin
          clear hmin
          go_upto_region 12 with (fail)
          rw [hmm.out]
          generalize min m3 m4 = m at *
          have c0a := hc0 0
          have c0b := hc0 1
          have c0c := hc0 2
          have c1a := hc0' 0
          have c1b := hc0' 1
          have c1c := hc0' 2
          change (convert 27 9 (.slice q3 m cc3)).run Try.prog w5 = .ok (.string S1) w5 at c0a
          change (convert 27 9 (.slice q3 m cc3)).run Try.prog w5.drew = .ok (.string S1) w5.drew at c0b
          change (convert 27 9 (.slice q3 m cc3)).run Try.prog w5.drew.drew = .ok (.string S1) w5.drew.drew at c0c
          change (convert 27 9 (.slice q4 m cc4)).run Try.prog w5 = .ok (.string S2) w5 at c1a
          change (convert 27 9 (.slice q4 m cc4)).run Try.prog w5.drew = .ok (.string S2) w5.drew at c1b
          change (convert 27 9 (.slice q4 m cc4)).run Try.prog w5.drew.drew = .ok (.string S2) w5.drew.drew at c1c
          clear hc0 hc0'
          have hne3 : (S1.toList == S2.toList) = false := beq_eq_false_iff_ne.2 hne2
          go_region
          all_goals
            go_wp2_with fail
            go_ret
            exact ⟨ret_bool (by simp [hne3]), ⟨HW5.out.os, HW5.out.tape, HW5.out.output, HW5.out.size, HW5.out.block⟩⟩
      · go_wp2_with fail
        go_ret
        exact ⟨rfl, HI4.out.1⟩
    · go_wp2_with fail
      go_ret
      exact ⟨rfl, HI4.out.1⟩
  · have HFEW2 : Hid (∀ wr, Below w.heap.size w wr → Calls Try.prog 11 #[.slice (some ⟨wr.heap.size, 0, none⟩) 2 2] (wr.alloc (.cells #[.int .i64 k, .int .i64 n, .string s, .slice r0 l.length c0, .int .i64 k', .int .i64 n', .string s', .slice r1 l'.length c1] 24)) fun e w' => e = .returned (.bool false) ∧ Below wr.heap.size wr w') := Lib.hid fun wr hb => by
      have := HFEW.out wr hb
      rwa [show (decide (cnt 21 (.mk k n s l) ≤ 200) && decide (cnt 21 (.mk k' n' s' l') ≤ 200)) = false by rw [Bool.and_eq_false_iff, decide_eq_false_iff_not, decide_eq_false_iff_not]; omega] at this
    clear HFEW VA VB
    generalize l.length = ll at *
    generalize l'.length = ll' at *
    go_enter Try.func7, Try.ntmps7
    go_wp2_with fail
    go_at_call 10
    refine (sane_any _).mono ?_
    rintro e w1 ⟨rfl, hb⟩
    have HI1 := Lib.hid (HI0.out.step hb); clear hb HI0
    obtain ⟨⟨x0, d0, d1, d2, d3⟩, ⟨y0, y1, y2, y3, y4⟩⟩ := HI1.out.2
    go_wp2_with fail
    go_at_call 11
    refine (HFEW2.out w1 HI1.out.1).mono ?_
    rintro e w2 ⟨rfl, hb⟩
    have HI2 := Lib.hid (HI1.out.step hb); clear hb
    go_wp2_with fail
    go_ret
    exact ⟨rfl, HI2.out.1⟩


set_option maxHeartbeats 1000000 in
set_option maxRecDepth 100000 in
theorem lifted (os : Os) (started : os.Started) (H : Type) (enc : TypeId × Value → H) :
    ReturnsInHanded {} Try.checked os 7 .any (Rows.codecDifferentSpec.pre6 enc Try.prog Try.f7 Rows.codecDifferentRow.domain false) (Rows.codecDifferentSpec.post enc Try.prog Try.f7 false true false false) := by
  refine returnsInHanded_of_change_sized (C := Try.checked) own' started (by kernel_rfl) Try.func7
    (ChangeSpec.witness6 (enc := enc) (C := Try.checked) false ⟨#[], #[.agg #[.int .i64 0, .int .i64 0, .string ⟨#[]⟩, .slice none 0 0], .agg #[.int .i64 0, .int .i64 0, .string ⟨#[]⟩, .slice none 0 0]], []⟩ 8 (by kernel_rfl) (by kernel_rfl) (by kernel_rfl) (by kernel_rfl)) ?_
  intro W base args ds gs before hval0 hW _ hsz0 _
  have hsz : (DataW.weightsEach Try.prog (Try.f7.params.toList ++ Rows.codecDifferentSpec.plain.varTypes Try.prog) (ds ++ gs)).all (· ≤ reachBytes) = true := hsz0
  clear hsz0
  have hval : ∀ (j : Nat) t v, Try.f7.params[j]? = some t → args[j]? = some v → Value.okWide Try.prog W .any base t v := hval0
  have hW' := hW
  obtain ⟨p, q, hA0, hV, rfl, _, _⟩ := hW
  have hA : DataW.TrodAll enc Try.prog W 0 (fun _ => true) true Try.f7.params.toList args.toList ds p := hA0
  rw [Try.params7] at hA hval hsz
  obtain ⟨v0, v1, d0, d1, p0, p1, rfl, rfl, rfl, h0, h1⟩ := trodAll_two hA
  obtain ⟨rfl, rfl⟩ := trodVars_none hV
  have h0k := h0
  have sz0 : ∀ n ∈ d0.weights Try.prog 24, n ≤ reachBytes := fun n hn => by
    have := List.all_eq_true.1 hsz n (DataW.weights_mem_each (j := 0) (t := 24) (d := d0) rfl rfl n hn)
    simpa using this
  have h1k := h1
  have sz1 : ∀ n ∈ d1.weights Try.prog 24, n ≤ reachBytes := fun n hn => by
    have := List.all_eq_true.1 hsz n (DataW.weights_mem_each (j := 1) (t := 24) (d := d1) rfl rfl n hn)
    simpa using this
  obtain ⟨u0, r0, c0, rfl, s0⟩ := open_value (hval 0 24 v0 rfl rfl) h0 sz0
  obtain ⟨u1, r1, c1, rfl, s1⟩ := open_value (hval 1 24 v1 rfl rfl) h1 sz1
  clear hA0 hval0
  simp only [List.append_nil] at hW'
  have lt0 : ∀ y ∈ p0, y.block < W.heap.size := fun y hy => by simpa using hW'.lt y (by simp [hy])
  have lt1 : ∀ y ∈ p1, y.block < W.heap.size := fun y hy => by simpa using hW'.lt y (by simp [hy])
  refine (walk W u0 r0 c0 s0 u1 r1 c1 s1).mono fun e W' ⟨he, hn⟩ => ?_
  subst he
  exact ⟨_, rfl, _, _, _, [], _, [], hW', trodAll_mk1 (shut_bool Try.underlying4 _), trodAll_mk2 (Below.trod laidOut (by kernel_rfl) (of_decide_eq_true (by kernel_rfl)) h0k hn lt0) (Below.trod laidOut (by kernel_rfl) (of_decide_eq_true (by kernel_rfl)) h1k hn lt1), rfl, hn.frame _, fun h => by cases h⟩

theorem over : Rows.codecDifferentRow.holds Try.pinned (OpenSpec.ofChange Rows.codecDifferentSpec) :=
  OpenClaim.holds_of_wide 7 Try.f7 rfl rfl rfl rfl rfl rfl rfl ⟨rfl, rfl, rfl, rfl, rfl⟩ rfl rfl rfl rfl rfl (by kernel_rfl) Try.func7 (by kernel_rfl)
    (of_decide_eq_true (by kernel_rfl)) (by unfold Func.isWrapper; first | (rw [if_pos (by decide +kernel)]; kernel_rfl) | (rw [if_neg (by decide +kernel)]; exact ⟨rfl, rfl⟩))
    (fun os started H enc _ => lifted os started H enc)

theorem proved : Rows.CodecDifferentSaid := over
#print axioms proved
end Go.Proofs.Ytopkpdaingmmeaa.codecDifferent
