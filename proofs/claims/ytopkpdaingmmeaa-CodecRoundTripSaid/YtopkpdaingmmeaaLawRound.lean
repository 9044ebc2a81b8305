/- CodecRoundTrip: the law returns true for all arguments, without any condition. -/
import Derived.Test.YtopkpdaingmmeaaVLaw
import Derived.Deep.Light
namespace Go.Proofs.Ytopkpdaingmmeaa.codecRoundTrip
open Go.ChangeShapes Go.WideShapes Go.ChangeAt Go.RowKit Go.Deep

/-- What stands while the law runs: the input's memory, and the first parameter's box. -/
def Inv (w : World) (k n : Int) (s : ByteArray) (sl : Value) (wr : World) : Prop := Below w.heap.size w wr ∧ Box wr w.heap.size k n s sl
theorem Inv.step {w wr w' : World} {k n : Int} {s : ByteArray} {sl : Value} (h : Inv w k n s sl wr) (hb : Below wr.heap.size wr w') : Inv w k n s sl w' := ⟨h.1.trans (hb.mono h.1.size), h.2.bel hb h.2.lt⟩
theorem Inv.alloc {w wr : World} {k n : Int} {s : ByteArray} {sl : Value} (h : Inv w k n s sl wr) (o : Obj) : Inv w k n s sl (wr.alloc o) := h.step ((Below.refl _ wr).alloc (Nat.le_refl _) o)

set_option maxRecDepth 100000 in
set_option maxHeartbeats 8000000 in
theorem walk (w : World) (u0 : V) (r0 : Option Addr) (c0 : Nat) (s0 : VAt w 0 u0 r0 c0) (bs : List UInt8) (r1 : Option Addr) (c1 : Nat) (s1 : BAt w 0 r1 bs) (m1 : bs.length ≤ c1) (n1 : c1 ≤ 9223372036854775807) :
    Calls Try.prog 6 #[vV u0 r0 c0, .slice r1 bs.length c1] w fun e w' => e = .returned (.bool true) ∧ Below w.heap.size w w' := by
  obtain ⟨k, n, s, l⟩ := u0
  have VA : ∀ wr, Below w.heap.size w wr → VAt wr 0 (.mk k n s l) r0 c0 := fun wr hb => s0.bel hb
  have RB : ∀ wr, Below w.heap.size w wr → BAt wr 0 r1 bs := fun wr hb => s1.below hb
  have hfit := s0.fits
  have HS0 := Lib.hid s0
  have HFEW : Hid (∀ wr, Below w.heap.size w wr → Calls Try.prog 11 #[.slice (some ⟨wr.heap.size, 0, none⟩) 1 1] (wr.alloc (.cells #[.int .i64 k, .int .i64 n, .string s, .slice r0 l.length c0] 24)) fun e w' => e = .returned (.bool (decide (cnt 21 (.mk k n s l) ≤ 200))) ∧ Below wr.heap.size wr w') := Lib.hid fun wr hb => by
    have h1 := one_at (VA wr hb)
    have hb2 := (Below.refl wr.heap.size wr).alloc (Nat.le_refl _) (.cells #[.int .i64 k, .int .i64 n, .string s, .slice r0 l.length c0] 24)
    refine (few_any [.mk k n s l] _ 0 _ _ h1).mono ?_
    rintro e w' ⟨rfl, hb'⟩
    refine ⟨?_, hb2.trans (hb'.mono hb2.size)⟩
    simp
  have hlen := s0.len
  have hsl := s1.len
  change l.length ≤ 2600000000000 at hlen
  show Calls Try.prog 6 #[.agg #[.int .i64 k, .int .i64 n, .string s, .slice r0 l.length c0], .slice r1 bs.length c1] w _
  clear s0 s1
  by_cases hfew : cnt 21 (.mk k n s l) ≤ 200
  · obtain ⟨hr, he, _⟩ := cnt_small 21 _ hfit hfew
    have hel : (enc (.mk k n s l)).length ≤ 1000000 := by omega
    have HFEW2 : Hid (∀ wr, Below w.heap.size w wr → Calls Try.prog 11 #[.slice (some ⟨wr.heap.size, 0, none⟩) 1 1] (wr.alloc (.cells #[.int .i64 k, .int .i64 n, .string s, .slice r0 l.length c0] 24)) fun e w' => e = .returned (.bool true) ∧ Below wr.heap.size wr w') := Lib.hid fun wr hb => by
      have := HFEW.out wr hb
      rwa [decide_eq_true hfew] at this
    have HENC : Hid (∀ wr, Below w.heap.size w wr → Calls Try.prog 12 #[.agg #[.int .i64 k, .int .i64 n, .string s, .slice r0 l.length c0]] wr fun e w' => Below wr.heap.size wr w' ∧ ∃ q m c, e = .returned (.tuple #[.slice q m c, .int .i64 (errV (.mk k n s l))]) ∧ BAt w' wr.heap.size q (if errV (.mk k n s l) = 0 then enc (.mk k n s l) else []) ∧ m = (if errV (.mk k n s l) = 0 then enc (.mk k n s l) else []).length ∧ (q = none → c = 0) ∧ m ≤ c ∧ c ≤ 9223372036854775807) := Lib.hid fun wr hb =>
      encode_any (.mk k n s l) (by omega) (fun _ => by omega) wr 0 r0 c0 (VA wr hb)
    have HCHK : Hid (∀ wr, Below w.heap.size w wr → Calls Try.prog 16 #[.agg #[.int .i64 k, .int .i64 n, .string s, .slice r0 l.length c0]] wr fun e w' => e = .returned (.int .i64 (errV (.mk k n s l))) ∧ Below wr.heap.size wr w') := Lib.hid fun wr hb =>
      check_any (.mk k n s l) (by omega) wr 0 r0 c0 (VA wr hb)
    have HDEC : Hid (∀ wr q m c B, errV (.mk k n s l) = 0 → BAt wr B q (enc (.mk k n s l)) → m = (enc (.mk k n s l)).length → m ≤ c → Calls Try.prog 18 #[.slice q m c] wr fun e w' => Below wr.heap.size wr w' ∧ ∃ p cap, e = .returned (.tuple #[.agg #[.int .i64 k, .int .i64 n, .string s, .slice p l.length cap], .int .i64 0]) ∧ VAt w' wr.heap.size (.mk k n s l) p cap) := Lib.hid fun wr q m c B h0 hq hm hc => by
      subst hm
      exact decG_any (good_of HS0.out h0) (by omega) wr B q c hq hc
    have HSAME : Hid (∀ wr p cap B, Below w.heap.size w wr → VAt wr B (.mk k n s l) p cap → Calls Try.prog 21 #[.agg #[.int .i64 k, .int .i64 n, .string s, .slice r0 l.length c0], .agg #[.int .i64 k, .int .i64 n, .string s, .slice p l.length cap]] wr fun e w' => e = .returned (.bool true) ∧ Below wr.heap.size wr w') := Lib.hid fun wr p cap B hb hv => by
      have := same_rank 21 (.mk k n s l) (.mk k n s l) hr wr 0 B r0 p c0 cap (VA wr hb) hv
      rwa [sm_yes rfl] at this
    have HRS : Hid (∀ wr p cap B, Below w.heap.size w wr → VAt wr B (.mk k n s l) p cap → Calls Try.prog 20 #[.agg #[.int .i64 k, .int .i64 n, .string s, .slice r0 l.length c0], .agg #[.int .i64 k, .int .i64 n, .string s, .slice p l.length cap]] wr fun e w' => e = .returned (.bool true) ∧ Below wr.heap.size wr w') := Lib.hid fun wr p cap B hb hv => by
      have := rsame_rank 21 (.mk k n s l) (.mk k n s l) hr wr 0 B r0 p c0 cap (VA wr hb) hv
      rwa [sm_yes rfl] at this
    have HVA := Lib.hid VA
    have HRB := Lib.hid RB
    clear VA RB HFEW he hel hr hfew
    generalize enc (.mk k n s l) = en at *
    generalize errV (.mk k n s l) = er at *
    by_cases hraw : bs.length ≤ 2000
    · have hraw2 : ¬ (2000 : Int) < (bs.length : Int) := by omega
      have HX : Hid (∀ wr, Below w.heap.size w wr → Calls Try.prog 18 #[.slice r1 bs.length c1] wr fun e w' => Below wr.heap.size wr w' ∧ ∃ q c, e = .returned (.tuple #[vV (decV bs) q c, .int .i64 (decE bs)]) ∧ VIn w' (wr.heap.size ≤ ·) (decV bs) q c) := Lib.hid fun wr hb =>
        decode_any bs (by omega) wr 0 r1 c1 (HRB.out wr hb) m1
      have HDC := Lib.hid (dec_cases bs)
      have hb0 := (Below.refl w.heap.size w).alloc (Nat.le_refl _) (.cells #[.int .i64 k, .int .i64 n, .string s, .slice r0 l.length c0] 24)
      have HI0 : Hid (Inv w k n s (.slice r0 l.length c0) (w.alloc (.cells #[.int .i64 k, .int .i64 n, .string s, .slice r0 l.length c0] 24))) := Lib.hid ⟨hb0, Box.new w k n s _⟩
      clear hb0
      generalize hL : bs.length = bl at *
      have HBL := Lib.hid hL; clear hL
      generalize l.length = ll at *
      go_enter Try.func6, Try.ntmps6
      go_wp2_with fail
      go_at_call 10
      refine (sane_any _).mono ?_
      rintro e w1 ⟨rfl, hb⟩
      have HI1 := Lib.hid (HI0.out.step hb); clear hb HI0
      obtain ⟨x0, d0, d1, d2, d3⟩ := HI1.out.2
      go_wp2_with fail
      go_at_call 11
      refine (HFEW2.out w1 HI1.out.1).mono ?_
      rintro e w2 ⟨rfl, hb⟩
      have HI2 := Lib.hid (HI1.out.step hb); clear hb HI1 x0 d0 d1 d2 d3
      obtain ⟨x0, d0, d1, d2, d3⟩ := HI2.out.2
      go_wp2_with fail
      go_at_call 12
      refine (HENC.out w2 HI2.out.1).mono ?_
      rintro e w3 ⟨hb, q3, m3, cc3, rfl, hq3, hm3, _, hmc3, _⟩
      have HI3 := Lib.hid (HI2.out.step hb); clear hb HI2 x0 d0 d1 d2 d3
      obtain ⟨x0, d0, d1, d2, d3⟩ := HI3.out.2
      have HQ3 := Lib.hid (And.intro hq3 hm3)
      clear hq3 hm3
      go_wp2_with fail
      go_at_call 16
      refine (HCHK.out w3 HI3.out.1).mono ?_
      rintro e w4 ⟨rfl, hb⟩
      have HI4 := Lib.hid (HI3.out.step hb); clear HI3 x0 d0 d1 d2 d3
      obtain ⟨x0, d0, d1, d2, d3⟩ := HI4.out.2
      have HQ4 := Lib.hid (And.intro (HQ3.out.1.below hb) HQ3.out.2)
      clear hb HQ3
      go_upto_if 34 with (fail)
      go_cut [7, 8] from 35 to 53 (fun a b wc => Hid (Below w4.heap.size w4 wc))
      case first =>
        by_cases h0 : er = 0
        · have HD := Lib.hid (HDEC.out w4 q3 m3 cc3 _ h0 (by have := HQ4.out.1; rwa [if_pos h0] at this) (by have := HQ4.out.2; rwa [if_pos h0] at this) hmc3)
          subst h0
          go_wp2_with fail
          go_at_call 18
          refine HD.out.mono ?_
          rintro e w5 ⟨hb, p5, cc5, rfl, hv5⟩
          have HI5 : Hid (∀ o, Inv w k n s (.slice r0 ll c0) (w5.alloc o)) := Lib.hid fun o => (HI4.out.step hb).alloc o
          have HV5 : Hid (∀ o, VAt (w5.alloc o) w4.heap.size (.mk k n s l) p5 cc5) := Lib.hid fun o => hv5.bel ((Below.refl _ w5).alloc (Nat.le_refl _) o)
          have HB5 : Hid (∀ o, Below w4.heap.size w4 (w5.alloc o)) := Lib.hid fun o => hb.alloc hb.size o
          have hI := HI4.out.step hb
          clear x0 d0 d1 d2 d3 hb hv5 HD
          obtain ⟨x0, d0, d1, d2, d3⟩ := hI.2
          clear hI
          go_wp2_with fail
          go_at_call 21
          refine (HSAME.out _ p5 cc5 _ (HI5.out _).1 (HV5.out _)).mono ?_
          rintro e w6 ⟨rfl, hb⟩
          have HI6 := Lib.hid ((HI5.out _).step hb)
          have HV6 := Lib.hid ((HV5.out _).bel hb)
          have HB6 := Lib.hid ((HB5.out _).trans (hb.mono (HB5.out _).size))
          clear x0 d0 d1 d2 d3
          obtain ⟨x0, d0, d1, d2, d3⟩ := HI6.out.2
          obtain ⟨y0, y1, y2, y3, y4⟩ := (Box.new w5 k n s (.slice p5 ll cc5)).bel hb (by simp)
          clear hb HI5 HV5 HB5
          go_wp2_with fail
          go_at_call 20
          refine (HRS.out _ p5 cc5 _ HI6.out.1 HV6.out).mono ?_
          rintro e w7 ⟨rfl, hb⟩
          have HB7 := Lib.hid (HB6.out.trans (hb.mono HB6.out.size))
          clear hb
          go_wp2_with fail
          go_meet
          exact Lib.hid HB7.out
        · go_wp2_with fail
          go_meet
          exact Lib.hid (Below.refl _ _)
      case rest =>
        have HIc := Lib.hid (HI4.out.step hcut.out)
        clear x0 d0 d1 d2 d3 hcut HI4 HQ4 HFEW2 HENC HCHK HDEC HSAME HRS
        have HC := Lib.hid (HX.out wc HIc.out.1)
        go_wp2_with fail
        go_at_call 18
        refine HC.out.mono ?_
        rintro e w8 ⟨hb, q8, c8, rfl, hv8⟩
        have HI8 : Hid (∀ o, Inv w k n s (.slice r0 ll c0) (w8.alloc o)) := Lib.hid fun o => (HIc.out.step hb).alloc o
        have HV8 : Hid (∀ o, VAt (w8.alloc o) 0 (decV bs) q8 c8) := Lib.hid fun o => (hv8.at (fun _ _ => Nat.zero_le _)).bel ((Below.refl _ w8).alloc (Nat.le_refl _) o)
        clear hb hv8 HC HIc HX
        rcases HDC.out with ⟨v, hg, hbs, hdv, hde⟩ | ⟨hdv, hde⟩
        · rw [hde, hdv]
          rw [hdv] at HV8
          have hel : (enc v).length ≤ 2000 := by have := HBL.out; rw [hbs] at this; omega
          have HE : Hid (∀ o, Calls Try.prog 12 #[vV v q8 c8] (w8.alloc o) fun e w' => Below (w8.alloc o).heap.size (w8.alloc o) w' ∧ ∃ q c, e = .returned (.tuple #[.slice q bl c, .int .i64 0]) ∧ BAt w' (w8.alloc o).heap.size q (enc v) ∧ bl ≤ c ∧ c ≤ 9223372036854775807 ∧ (q = none → c = 0)) := Lib.hid fun o => by
            have := encG_any hg (by have := good_rank hg; omega) (by omega) _ 0 _ c8 (HV8.out o)
            rwa [show (enc v).length = bl by rw [← hbs]; exact HBL.out] at this
          have HG := Lib.hid hg
          have HBS := Lib.hid hbs
          clear hg hbs hdv hde hel HDC
          unfold vV at HE ⊢
          go_wp2_with fail
          go_at_call 12
          refine (HE.out _).mono ?_
          rintro e w9 ⟨hb, q9, c9, rfl, hq9, _⟩
          have HI9 := Lib.hid ((HI8.out _).step hb)
          have HV9 := Lib.hid ((HV8.out _).bel hb)
          obtain ⟨y0, y1, y2, y3, y4⟩ := (Box.new w8 v.k v.n v.s (.slice q8 v.l.length c8)).bel hb (by simp)
          have hcv := strOf hq9 c9
          rw [show (enc v).length = bl by rw [← HBS.out]; exact HBL.out] at hcv
          have hcv2 := strOf (HRB.out w9 HI9.out.1) c1
          rw [HBL.out, HBS.out] at hcv2
          have HCK := Lib.hid (checkG_any HG.out w9 0 q8 c8 HV9.out)
          unfold vV at HCK
          clear hb hq9 HE HI8 HV8
          go_wp2_with fail
          go_at_call 16
          refine HCK.out.mono ?_
          rintro e w10 ⟨rfl, hb⟩
          have HB := Lib.hid (HI9.out.1.trans (hb.mono HI9.out.1.size))
          clear hb
          go_wp2_with fail
          go_ret
          exact ⟨rfl, HB.out⟩
        · rw [hde, hdv]
          rw [hdv] at HV8
          have HSM : Hid (∀ o, Calls Try.prog 21 #[vV (.mk 0 0 ⟨#[]⟩ []) q8 c8, vV (.mk 0 0 ⟨#[]⟩ []) none 0] (w8.alloc o) fun e w' => e = .returned (.bool true) ∧ Below (w8.alloc o).heap.size (w8.alloc o) w') := Lib.hid fun o => by
            have := same_rank 1 (.mk 0 0 ⟨#[]⟩ []) (.mk 0 0 ⟨#[]⟩ []) (by rw [rank_leaf]; omega) (w8.alloc o) 0 0 q8 none c8 0 (HV8.out o) (VAt.leaf ⟨by decide, by decide⟩ ⟨by decide, by decide⟩ (by decide) (fun _ => rfl) (by decide))
            rwa [sm_yes rfl] at this
          clear hdv hde HDC
          unfold vV at HSM ⊢
          go_wp2_with fail
          go_at_call 21
          refine (HSM.out _).mono ?_
          rintro e w9 ⟨rfl, hb⟩
          have HB := Lib.hid ((HI8.out _).1.trans (hb.mono (HI8.out _).1.size))
          clear hb
          go_wp2_with fail
          go_ret
          exact ⟨rfl, HB.out⟩
    · have hraw2 : (2000 : Int) < (bs.length : Int) := by omega
      have hb0 := (Below.refl w.heap.size w).alloc (Nat.le_refl _) (.cells #[.int .i64 k, .int .i64 n, .string s, .slice r0 l.length c0] 24)
      have HI0 : Hid (Inv w k n s (.slice r0 l.length c0) (w.alloc (.cells #[.int .i64 k, .int .i64 n, .string s, .slice r0 l.length c0] 24))) := Lib.hid ⟨hb0, Box.new w k n s _⟩
      clear hb0
      generalize bs.length = bl at *
      generalize l.length = ll at *
      go_enter Try.func6, Try.ntmps6
      go_wp2_with fail
      go_at_call 10
      refine (sane_any _).mono ?_
      rintro e w1 ⟨rfl, hb⟩
      have HI1 := Lib.hid (HI0.out.step hb); clear hb HI0
      obtain ⟨x0, d0, d1, d2, d3⟩ := HI1.out.2
      go_wp2_with fail
      go_at_call 11
      refine (HFEW2.out w1 HI1.out.1).mono ?_
      rintro e w2 ⟨rfl, hb⟩
      have HI2 := Lib.hid (HI1.out.step hb); clear hb
      go_wp2_with fail
      go_ret
      exact ⟨rfl, HI2.out.1⟩
  · have HFEW2 : Hid (∀ wr, Below w.heap.size w wr → Calls Try.prog 11 #[.slice (some ⟨wr.heap.size, 0, none⟩) 1 1] (wr.alloc (.cells #[.int .i64 k, .int .i64 n, .string s, .slice r0 l.length c0] 24)) fun e w' => e = .returned (.bool false) ∧ Below wr.heap.size wr w') := Lib.hid fun wr hb => by
      have := HFEW.out wr hb
      rwa [decide_eq_false hfew] at this
    have hb0 := (Below.refl w.heap.size w).alloc (Nat.le_refl _) (.cells #[.int .i64 k, .int .i64 n, .string s, .slice r0 l.length c0] 24)
    have HI0 : Hid (Inv w k n s (.slice r0 l.length c0) (w.alloc (.cells #[.int .i64 k, .int .i64 n, .string s, .slice r0 l.length c0] 24))) := Lib.hid ⟨hb0, Box.new w k n s _⟩
    clear hb0 HFEW VA RB
    generalize bs.length = bl at *
    generalize l.length = ll at *
    go_enter Try.func6, Try.ntmps6
    go_wp2_with fail
    go_at_call 10
    refine (sane_any _).mono ?_
    rintro e w1 ⟨rfl, hb⟩
    have HI1 := Lib.hid (HI0.out.step hb); clear hb HI0
    obtain ⟨x0, d0, d1, d2, d3⟩ := HI1.out.2
    go_wp2_with fail
    go_at_call 11
    refine (HFEW2.out w1 HI1.out.1).mono ?_
    rintro e w2 ⟨rfl, hb⟩
    have HI2 := Lib.hid (HI1.out.step hb); clear hb
    go_wp2_with fail
    go_ret
    exact ⟨rfl, HI2.out.1⟩


set_option maxHeartbeats 1000000 in
set_option maxRecDepth 100000 in
theorem lifted (os : Os) (started : os.Started) (H : Type) (enc : TypeId × Value → H) :
    ReturnsInHanded {} Try.checked os 6 .any (Rows.codecRoundTripSpec.pre6 enc Try.prog Try.f6 Rows.codecRoundTripRow.domain false) (Rows.codecRoundTripSpec.post enc Try.prog Try.f6 false true false false) := by
  refine returnsInHanded_of_change_sized (C := Try.checked) own' started (by kernel_rfl) Try.func6
    (ChangeSpec.witness6 (enc := enc) (C := Try.checked) false ⟨#[], #[.agg #[.int .i64 0, .int .i64 0, .string ⟨#[]⟩, .slice none 0 0], .slice none 0 0], []⟩ 8 (by kernel_rfl) (by kernel_rfl) (by kernel_rfl) (by kernel_rfl)) ?_
  intro W base args ds gs before hval0 hW _ hsz0 _
  have hsz : (DataW.weightsEach Try.prog (Try.f6.params.toList ++ Rows.codecRoundTripSpec.plain.varTypes Try.prog) (ds ++ gs)).all (· ≤ reachBytes) = true := hsz0
  clear hsz0
  have hval : ∀ (j : Nat) t v, Try.f6.params[j]? = some t → args[j]? = some v → Value.okWide Try.prog W .any base t v := hval0
  have hW' := hW
  obtain ⟨p, q, hA0, hV, rfl, _, _⟩ := hW
  have hA : DataW.TrodAll enc Try.prog W 0 (fun _ => true) true Try.f6.params.toList args.toList ds p := hA0
  rw [Try.params6] at hA hval hsz
  obtain ⟨v0, v1, d0, d1, p0, p1, rfl, rfl, rfl, h0, h1⟩ := trodAll_two hA
  obtain ⟨rfl, rfl⟩ := trodVars_none hV
  have h0k := h0
  have sz0 : ∀ n ∈ d0.weights Try.prog 24, n ≤ reachBytes := fun n hn => by
    have := List.all_eq_true.1 hsz n (DataW.weights_mem_each (j := 0) (t := 24) (d := d0) rfl rfl n hn)
    simpa using this
  have h1k := h1
  have sz1 : ∀ n ∈ d1.weights Try.prog 27, n ≤ reachBytes := fun n hn => by
    have := List.all_eq_true.1 hsz n (DataW.weights_mem_each (j := 1) (t := 27) (d := d1) rfl rfl n hn)
    simpa using this
  obtain ⟨u0, r0, c0, rfl, s0⟩ := open_value (hval 0 24 v0 rfl rfl) h0 sz0
  obtain ⟨u1, r1, c1, rfl, s1, m1, n1⟩ := open_bytes (hval 1 27 v1 rfl rfl) h1 sz1
  clear hA0 hval0
  simp only [List.append_nil] at hW'
  have lt0 : ∀ y ∈ p0, y.block < W.heap.size := fun y hy => by simpa using hW'.lt y (by simp [hy])
  have lt1 : ∀ y ∈ p1, y.block < W.heap.size := fun y hy => by simpa using hW'.lt y (by simp [hy])
  refine (walk W u0 r0 c0 s0 u1 r1 c1 s1 m1 n1).mono fun e W' ⟨he, hn⟩ => ?_
  subst he
  exact ⟨_, rfl, _, _, _, [], _, [], hW', trodAll_mk1 (shut_bool Try.underlying4 _), trodAll_mk2 (Below.trod laidOut (by kernel_rfl) (of_decide_eq_true (by kernel_rfl)) h0k hn lt0) (Below.trod laidOut (by kernel_rfl) (of_decide_eq_true (by kernel_rfl)) h1k hn lt1), rfl, hn.frame _, fun h => by cases h⟩

theorem over : Rows.codecRoundTripRow.holds Try.pinned (OpenSpec.ofChange Rows.codecRoundTripSpec) :=
  OpenClaim.holds_of_wide 6 Try.f6 rfl rfl rfl rfl rfl rfl rfl ⟨rfl, rfl, rfl, rfl, rfl⟩ rfl rfl rfl rfl rfl (by kernel_rfl) Try.func6 (by kernel_rfl)
    (of_decide_eq_true (by kernel_rfl)) (by unfold Func.isWrapper; first | (rw [if_pos (by decide +kernel)]; kernel_rfl) | (rw [if_neg (by decide +kernel)]; exact ⟨rfl, rfl⟩))
    (fun os started H enc _ => lifted os started H enc)

theorem proved : Rows.CodecRoundTripSaid := over
#print axioms proved
end Go.Proofs.Ytopkpdaingmmeaa.codecRoundTrip
