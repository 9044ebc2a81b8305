/- strconv.Atoi of any text; number. -/
import Derived.Test.YtdhdjfkknfbmhaaGreatDoorSCho
import Derived.Test.YtdhdjfkknfbmhaaGreatDoorShelfA
namespace Go.Proofs.YtdhdjfkknfbmhaaGreatDoor
open Go.RowKit

/-- The library's two errors stand. -/
structure GlE (w : World) : Prop where
  size : 12 ≤ w.heap.size
  s : ∃ ev, w.cell? ⟨6, 0, none⟩ = some ev ∧ (ev = .nilIface ∨ ∃ te pe, ev = .iface te pe)
  r : ∃ ev, w.cell? ⟨7, 0, none⟩ = some ev ∧ (ev = .nilIface ∨ ∃ te pe, ev = .iface te pe)
theorem GlE.bel {w w' : World} (h : GlE w) (hb : Below w.heap.size w w') : GlE w' := by
  have hs := h.size
  have hc : ∀ (b o : Nat), b < 12 → w'.cell? ⟨b, o, none⟩ = w.cell? ⟨b, o, none⟩ := fun b o hlt => hb.cell (p := ⟨b, o, none⟩) (show b < w.heap.size by omega)
  obtain ⟨e1, a1, b1⟩ := h.s
  obtain ⟨e2, a2, b2⟩ := h.r
  exact ⟨Nat.le_trans hs hb.size, ⟨e1, (hc _ _ (by decide)).trans a1, b1⟩, ⟨e2, (hc _ _ (by decide)).trans a2, b2⟩⟩

theorem GlE.kp {w w' : World} {pb : Nat} (h : GlE w) (hk : Kp w w' pb) (hp : 12 ≤ pb) : GlE w' := by
  have hs := h.size
  have hc : ∀ (b o : Nat), b < 12 → w'.cell? ⟨b, o, none⟩ = w.cell? ⟨b, o, none⟩ := fun b o hlt => World.cell?_of_block (a := ⟨b, o, none⟩) (hk.block b (by omega) (by omega))
  obtain ⟨e1, a1, b1⟩ := h.s
  obtain ⟨e2, a2, b2⟩ := h.r
  exact ⟨Nat.le_trans hs hk.size, ⟨e1, (hc _ _ (by decide)).trans a1, b1⟩, ⟨e2, (hc _ _ (by decide)).trans a2, b2⟩⟩

theorem atoi_any (l : Bs) (hl : l.length ≤ 100000) (w : World) (hG : GlE w) :
    Calls Tryz.prog 133 #[.string (S l)] w fun e w' => Below w.heap.size w w' ∧ ((∃ v, Lib.atoiAll l = .ok v ∧ e = .returned (.tuple #[.int .i64 v, .nilIface])) ∨ ((∀ v, Lib.atoiAll l ≠ .ok v) ∧ ∃ x T p, e = .returned (.tuple #[.int .i64 x, .iface T p]))) := by
  have hd : (S l).data.toList = l := S_data l
  cases ha : Lib.atoiAll l with
  | ok v =>
    refine (Any.strconv_Atoi_ok Tryz.laysC172 (S l) (by rw [S_size]; omega) v (by rw [hd]; exact ha) w).mono ?_
    rintro e w' ⟨rfl, h⟩
    refine ⟨?_, Or.inl ⟨v, rfl, rfl⟩⟩
    rcases h with rfl | ⟨t, rfl⟩
    · exact Below.refl _ _
    · exact Lib.bytesWorld_below _ _ _
  | range =>
    obtain ⟨ev, h1, h2⟩ := hG.r
    refine (Any.strconv_Atoi_range Tryz.laysC172 (S l) (by rw [S_size]; omega) (by rw [hd]; exact ha) ev w h1 h2).mono ?_
    rintro e w' ⟨N, rfl, _, _, hb⟩
    exact ⟨hb, Or.inr ⟨(fun v h => by cases h), _, _, _, rfl⟩⟩
  | _ =>
    obtain ⟨ev, h1, h2⟩ := hG.s
    refine (Any.strconv_Atoi_syntax Tryz.laysC172 (S l) (by rw [S_size]; omega) (by rw [hd]; exact ha) ev w h1 h2).mono ?_
    rintro e w' ⟨N, rfl, _, _, hb⟩
    exact ⟨hb, Or.inr ⟨(fun v h => by cases h), _, _, _, rfl⟩⟩

set_option maxHeartbeats 8000000 in
set_option maxRecDepth 100000 in
theorem number_any (w : World) (hG : GlE w) (pb tb off cap : Nat) (M : Nat → Value) (L : List Tk) (i : Nat) (h : Psr w pb tb off cap M L i) :
    Calls Tryz.prog 87 #[.pointer (some ⟨pb, 0, none⟩)] w fun e w' => EndsI w pb tb off cap M L (numberS (L.drop i)) e w' := by
  obtain ⟨t, r, hr⟩ := drop_head h
  obtain ⟨-, -, h6, htl⟩ := h.head hr
  have HN := Lib.hid (pnext_any w pb tb off cap M L i h t r hr)
  have HAT : Hid (∀ w1, Below w.heap.size w w1 → Calls Tryz.prog 133 #[.string (S t.t)] w1 fun e w' => Below w1.heap.size w1 w' ∧ ((∃ v, Lib.atoiAll t.t = .ok v ∧ e = .returned (.tuple #[.int .i64 v, .nilIface])) ∨ ((∀ v, Lib.atoiAll t.t ≠ .ok v) ∧ ∃ x T p, e = .returned (.tuple #[.int .i64 x, .iface T p])))) := Lib.hid fun w1 hb => atoi_any t.t htl w1 (hG.bel hb)
  have HRQ : Hid (∀ w1, Below w.heap.size w w1 → ∀ b, Calls Tryz.prog 118 #[.pointer (some ⟨pb, 0, none⟩), .bool b] w1 fun e w' => e = (if b = true then .returned (.tuple #[]) else .panicked (failV (atS (L.drop i)) 60)) ∧ Below w1.heap.size w1 w') := Lib.hid fun w1 hb b => require_any b w1 pb tb off cap M L i (h.bel hb (Nat.le_refl _))
  have HTK : Hid (r ≠ [] → ∀ w1, Below w.heap.size w w1 → Calls Tryz.prog 120 #[.pointer (some ⟨pb, 0, none⟩)] w1 fun e w' => e = .returned (.string (S t.t)) ∧ Psr w' pb tb off cap M L (i + 1) ∧ Kp w1 w' pb) := Lib.hid fun hne w1 hb => ptake_any w1 pb tb off cap M L i (h.bel hb (Nat.le_refl _)) t r hr hne
  have HV : Hid (numV (L.drop i) = if (t.k == 2) = true then (match Lib.atoiAll t.t with | .ok n => if 0 ≤ n ∧ n ≤ 1125899906842624 then some n else none | _ => none) else none) := Lib.hid (by rw [hr]; rfl)
  have HTL : Hid ((L.drop i).tail = L.drop (i + 1)) := Lib.hid (by rw [List.tail_drop])
  have HNE : Hid ((t.k == 2) = true → r ≠ []) := Lib.hid fun h2 h3 => by
    have a := h6.2 h3
    have b : t.k = 2 := by simpa using h2
    omega
  clear h hr h6 htl hG
  unfold numberS
  obtain ⟨T, hT⟩ : ∃ T, numV (L.drop i) = T := ⟨_, rfl⟩
  rw [hT] at HV ⊢
  rw [HTL.out]
  have hf : (failS 60 (L.drop i) : PR Int) = .err (atS (L.drop i)) 60 := rfl
  rw [hf]
  clear hT hf
  generalize atS (L.drop i) = at' at HRQ ⊢
  unfold tokV at HN
  go_enter Tryz.func87, Tryz.ntmps87
  go_wp2_with fail
  go_at_call 119
  refine HN.out.mono ?_
  rintro e w1 ⟨rfl, hb⟩
  have HB1 := Lib.hid (hb.alloc hb.size (.cells #[.int .i64 t.k, .string (S t.t), .int .i64 t.a] 57))
  clear hb HN
  go_wp2_with fail
  go_at_call 133
  refine (HAT.out _ HB1.out).mono ?_
  rintro e w2 ⟨hb, hor⟩
  have z0 : w2.cell? ⟨w1.heap.size, 0, none⟩ = some (.int .i64 t.k) := by
    rw [hb.cell (p := ⟨w1.heap.size, 0, none⟩) (by simp)]
    simp [go_sem]
  have HB2 := Lib.hid (HB1.out.trans (hb.mono HB1.out.size))
  clear hb HAT HB1
  rcases hor with ⟨v, hv, rfl⟩ | ⟨hno, x, ty, pp, rfl⟩
  · rw [hv] at HV
    clear hv
    cases hk : (t.k == 2) with
    | true =>
      rw [hk] at HV HNE
      by_cases h0 : 0 ≤ v
      · by_cases h1 : v ≤ 1125899906842624
        · have hTe : T = some v := by rw [HV.out, if_pos rfl]; show (if 0 ≤ v ∧ v ≤ 1125899906842624 then some v else none) = _; rw [if_pos ⟨h0, h1⟩]
          subst hTe
          have HTK2 := Lib.hid (HTK.out (HNE.out rfl))
          clear HV HTK HNE
          go_wp2_with (first | (go_at_call 118; refine (HRQ.out _ HB2.out true).mono ?_; rintro e w3 ⟨rfl, hb⟩; have HB3 := Lib.hid (HB2.out.trans (hb.mono HB2.out.size)); clear hb) | (go_at_call 120; refine (HTK2.out _ HB3.out).mono ?_; rintro e w4 ⟨rfl, hp4, hk4⟩; have HP4 := Lib.hid hp4; have HK4 := Lib.hid ((Kp.ofBelow HB3.out (Nat.le_refl _)).trans hk4); clear hp4 hk4))
          go_ret
          exact ⟨rfl, HK4.out, i + 1, rfl, HP4.out⟩
        · have h1n := h1
          have hd1 : decide (v ≤ 1125899906842624) = false := decide_eq_false h1
          have hTe : T = none := by rw [HV.out]; rw [if_pos rfl]; show (if 0 ≤ v ∧ v ≤ 1125899906842624 then some v else none) = _; rw [if_neg (fun h => h1n h.2)]
          subst hTe
          clear HV h1n h1 HTK HNE
          go_wp2_with (go_at_call 118; refine (HRQ.out _ HB2.out false).mono ?_; rintro e w3 ⟨rfl, hb⟩; have HB3 := Lib.hid (HB2.out.trans (hb.mono HB2.out.size)); clear hb)
          exact ⟨rfl, rfl, Kp.ofBelow HB3.out (Nat.le_refl _)⟩
      · have h0n := h0
        have hTe : T = none := by rw [HV.out]; rw [if_pos rfl]; show (if 0 ≤ v ∧ v ≤ 1125899906842624 then some v else none) = _; rw [if_neg (fun h => h0n h.1)]
        subst hTe
        clear HV h0n HTK HNE
        go_wp2_with (go_at_call 118; refine (HRQ.out _ HB2.out false).mono ?_; rintro e w3 ⟨rfl, hb⟩; have HB3 := Lib.hid (HB2.out.trans (hb.mono HB2.out.size)); clear hb)
        exact ⟨rfl, rfl, Kp.ofBelow HB3.out (Nat.le_refl _)⟩
    | false =>
      rw [hk] at HV
      have hTe : T = none := by rw [HV.out]; rfl
      subst hTe
      clear HV HTK HNE
      go_wp2_with (go_at_call 118; refine (HRQ.out _ HB2.out false).mono ?_; rintro e w3 ⟨rfl, hb⟩; have HB3 := Lib.hid (HB2.out.trans (hb.mono HB2.out.size)); clear hb)
      exact ⟨rfl, rfl, Kp.ofBelow HB3.out (Nat.le_refl _)⟩
  · have hTn : T = none := by
      rw [HV.out]
      split
      · split
        · rename_i n hn
          exact absurd hn (hno n)
        · rfl
      · rfl
    subst hTn
    clear HV hno HTK HNE
    cases hk : (t.k == 2) with
    | true =>
      go_wp2_with (go_at_call 118; refine (HRQ.out _ HB2.out false).mono ?_; rintro e w3 ⟨rfl, hb⟩; have HB3 := Lib.hid (HB2.out.trans (hb.mono HB2.out.size)); clear hb)
      exact ⟨rfl, rfl, Kp.ofBelow HB3.out (Nat.le_refl _)⟩
    | false =>
      go_wp2_with (go_at_call 118; refine (HRQ.out _ HB2.out false).mono ?_; rintro e w3 ⟨rfl, hb⟩; have HB3 := Lib.hid (HB2.out.trans (hb.mono HB2.out.size)); clear hb)
      exact ⟨rfl, rfl, Kp.ofBelow HB3.out (Nat.le_refl _)⟩
end Go.Proofs.YtdhdjfkknfbmhaaGreatDoor
