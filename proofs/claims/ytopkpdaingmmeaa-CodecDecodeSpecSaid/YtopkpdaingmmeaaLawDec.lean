/- CodecDecodeSpec: the law returns true for all arguments, without any condition. -/
import Derived.Test.YtopkpdaingmmeaaVLaw
import Derived.Deep.Light
import Derived.Deep.RegionHeld3
import Derived.Test.YtopkpdaingmmeaaVRdr9
namespace Go.Proofs.Ytopkpdaingmmeaa.codecDecodeSpec
open Go.ChangeShapes Go.WideShapes Go.ChangeAt Go.RowKit Go.Deep

theorem rank_dec (bs : List UInt8) : rank (decV bs) ≤ 17 := by
  rcases dec_cases bs with ⟨v, hg, _, hv, _⟩ | ⟨hv, _⟩
  · rw [hv]; exact good_rank hg
  · rw [hv, rank_leaf]; omega

set_option maxRecDepth 100000 in
set_option maxHeartbeats 4000000 in
theorem walk (w : World) (bs : List UInt8) (r0 : Option Addr) (c0 : Nat) (s0 : BAt w 0 r0 bs) (m0 : bs.length ≤ c0) (n0 : c0 ≤ 9223372036854775807) :
    Calls Try.prog 4 #[.slice r0 bs.length c0] w fun e w' => e = .returned (.bool true) ∧ Below w.heap.size w w' := by
  by_cases hraw : bs.length ≤ 2000
  · have hraw2 : ¬ (2000 : Int) < (bs.length : Int) := by omega
    have HX : Hid (∀ wr, Below w.heap.size w wr → Calls Try.prog 18 #[.slice r0 bs.length c0] wr fun e w' => Below wr.heap.size wr w' ∧ ∃ q c, e = .returned (.tuple #[vV (decV bs) q c, .int .i64 (decE bs)]) ∧ VIn w' (wr.heap.size ≤ ·) (decV bs) q c) := Lib.hid fun wr hb =>
      decode_any bs (by omega) wr 0 r0 c0 (s0.below hb) m0
    have HY : Hid (∀ wr, Below w.heap.size w wr → Calls Try.prog 19 #[.slice r0 bs.length c0] wr fun e w' => Below wr.heap.size wr w' ∧ ∃ q c, e = .returned (.tuple #[vV (decV bs) q c, .int .i64 (decE bs)]) ∧ VIn w' (wr.heap.size ≤ ·) (decV bs) q c) := Lib.hid fun wr hb =>
      refDecode_any bs (by omega) wr 0 r0 c0 (s0.below hb) m0
    have HSAME : Hid (∀ wr B B' p q c c', VAt wr B (decV bs) p c → VAt wr B' (decV bs) q c' → Calls Try.prog 20 #[vV (decV bs) p c, vV (decV bs) q c'] wr fun e w' => e = .returned (.bool true) ∧ Below wr.heap.size wr w') := Lib.hid fun wr B B' p q c c' h h' => by
      have := rsame_rank 17 (decV bs) (decV bs) (rank_dec bs) wr B B' p q c c' h h'
      rwa [sm_yes rfl] at this
    clear s0
    generalize bs.length = bl at *
    generalize decV bs = v at *
    generalize decE bs = er at *
    go_enter Try.func4, Try.ntmps4
    go_wp2_with fail
    go_at_call 10
    refine (sane_any _).mono ?_
    rintro e w1 ⟨rfl, hb⟩
    have HB1 := Lib.hid hb; clear hb
    go_wp2_with fail
    go_at_call 18
    refine (HX.out w1 HB1.out).mono ?_
    rintro e w2 ⟨hb, q2, c2, rfl, hv2⟩
    have HB2 : Hid (∀ o, Below w.heap.size w (w2.alloc o)) := Lib.hid fun o => ((HB1.out.trans (hb.mono HB1.out.size)).alloc (HB1.out.trans (hb.mono HB1.out.size)).size o)
    have HV2 : Hid (∀ o, VAt (w2.alloc o) 0 v q2 c2) := Lib.hid fun o => (hv2.at (fun _ _ => Nat.zero_le _)).bel ((Below.refl _ w2).alloc (Nat.le_refl _) o)
    have HX2 := Lib.hid (Box.new w2 v.k v.n v.s (.slice q2 v.l.length c2))
    clear hb hv2 HX HB1
    unfold vV at *
    go_wp2_with fail
    go_at_call 19
    refine (HY.out _ (HB2.out _)).mono ?_
    rintro e w3 ⟨hb, q3, c3, rfl, hv3⟩
    have HB3 := Lib.hid ((HB2.out _).trans (hb.mono (HB2.out _).size))
    have HB4 : Hid (∀ o, Below w.heap.size w (w3.alloc o)) := Lib.hid fun o => HB3.out.alloc HB3.out.size o
    have HV3 : Hid (∀ o, VAt (w3.alloc o) 0 v q3 c3) := Lib.hid fun o => (hv3.at (fun _ _ => Nat.zero_le _)).bel ((Below.refl _ w3).alloc (Nat.le_refl _) o)
    have HV4 : Hid (∀ o, VAt (w3.alloc o) 0 v q2 c2) := Lib.hid fun o => ((HV2.out _).bel hb).bel ((Below.refl _ w3).alloc (Nat.le_refl _) o)
    have HX3 := Lib.hid (HX2.out.bel hb (by simp))
    have HX4 := Lib.hid fun o => HX3.out.bel ((Below.refl _ w3).alloc (Nat.le_refl _) o) HX3.out.lt
    have d0 := fun o => (HX4.out o).c0
    have d1 := fun o => (HX4.out o).c1
    have d2 := fun o => (HX4.out o).c2
    have d3 := fun o => (HX4.out o).c3
    clear hb hv3 HY HB2 HV2 HX2
    go_wp2_with fail
    go_at_call 20
    refine (HSAME.out _ _ _ _ _ _ _ (HV4.out _) (HV3.out _)).mono ?_
    rintro e w5 ⟨rfl, hb⟩
    have HB5 := Lib.hid ((HB4.out _).trans (hb.mono (HB4.out _).size))
    clear hb
    go_wp2_with fail
    go_ret
    exact ⟨rfl, HB5.out⟩
  · have hraw2 : (2000 : Int) < (bs.length : Int) := by omega
    clear s0
    go_enter Try.func4, Try.ntmps4
    go_wp2_with fail
    go_at_call 10
    refine (sane_any _).mono ?_
    rintro e w1 ⟨rfl, hb⟩
    have HB1 := Lib.hid hb; clear hb
    go_wp2_with fail
    go_ret
    exact ⟨rfl, HB1.out⟩


set_option maxHeartbeats 1000000 in
set_option maxRecDepth 100000 in
theorem lifted (os : Os) (started : os.Started) (H : Type) (enc : TypeId × Value → H) :
    ReturnsInHanded {} Try.checked os 4 .any (Rows.codecDecodeSpecSpec.pre6 enc Try.prog Try.f4 Rows.codecDecodeSpecRow.domain false) (Rows.codecDecodeSpecSpec.post enc Try.prog Try.f4 false true false false) := by
  refine returnsInHanded_of_change_sized (C := Try.checked) own' started (by kernel_rfl) Try.func4
    (ChangeSpec.witness6 (enc := enc) (C := Try.checked) false ⟨#[], #[.slice none 0 0], []⟩ 8 (by kernel_rfl) (by kernel_rfl) (by kernel_rfl) (by kernel_rfl)) ?_
  intro W base args ds gs before hval0 hW _ hsz0 _
  have hsz : (DataW.weightsEach Try.prog (Try.f4.params.toList ++ Rows.codecDecodeSpecSpec.plain.varTypes Try.prog) (ds ++ gs)).all (· ≤ reachBytes) = true := hsz0
  clear hsz0
  have hval : ∀ (j : Nat) t v, Try.f4.params[j]? = some t → args[j]? = some v → Value.okWide Try.prog W .any base t v := hval0
  have hW' := hW
  obtain ⟨p, q, hA0, hV, rfl, _, _⟩ := hW
  have hA : DataW.TrodAll enc Try.prog W 0 (fun _ => true) true Try.f4.params.toList args.toList ds p := hA0
  rw [Try.params4] at hA hval hsz
  obtain ⟨v0, d0, rfl, rfl, h0⟩ := trodAll_one hA
  obtain ⟨rfl, rfl⟩ := trodVars_none hV
  have h0k := h0
  have sz0 : ∀ n ∈ d0.weights Try.prog 27, n ≤ reachBytes := fun n hn => by
    have := List.all_eq_true.1 hsz n (DataW.weights_mem_each (j := 0) (t := 27) (d := d0) rfl rfl n hn)
    simpa using this
  obtain ⟨u0, r0, c0, rfl, s0, m0, n0⟩ := open_bytes (hval 0 27 v0 rfl rfl) h0 sz0
  clear hA0 hval0
  simp only [List.append_nil] at hW'
  have lt0 : ∀ y ∈ p, y.block < W.heap.size := fun y hy => by simpa using hW'.lt y (by simp [hy])
  refine (walk W u0 r0 c0 s0 m0 n0).mono fun e W' ⟨he, hn⟩ => ?_
  subst he
  exact ⟨_, rfl, _, _, _, [], _, [], hW', trodAll_mk1 (shut_bool Try.underlying4 _), trodAll_mk1 (Below.trod laidOut (by kernel_rfl) (of_decide_eq_true (by kernel_rfl)) h0k hn lt0), rfl, hn.frame _, fun h => by cases h⟩

theorem over : Rows.codecDecodeSpecRow.holds Try.pinned (OpenSpec.ofChange Rows.codecDecodeSpecSpec) :=
  OpenClaim.holds_of_wide 4 Try.f4 rfl rfl rfl rfl rfl rfl rfl ⟨rfl, rfl, rfl, rfl, rfl⟩ rfl rfl rfl rfl rfl (by kernel_rfl) Try.func4 (by kernel_rfl)
    (of_decide_eq_true (by kernel_rfl)) (by unfold Func.isWrapper; first | (rw [if_pos (by decide +kernel)]; kernel_rfl) | (rw [if_neg (by decide +kernel)]; exact ⟨rfl, rfl⟩))
    (fun os started H enc _ => lifted os started H enc)

theorem proved : Rows.CodecDecodeSpecSaid := over
#print axioms proved
end Go.Proofs.Ytopkpdaingmmeaa.codecDecodeSpec
