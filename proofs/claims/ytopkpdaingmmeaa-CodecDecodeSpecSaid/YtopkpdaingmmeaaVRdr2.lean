/- The specification's reader: a number. -/
import Derived.Test.YtopkpdaingmmeaaVRdr
namespace Go.Proofs.Ytopkpdaingmmeaa
open Go.RowKit

theorem rdNum_far (sh acc : Nat) (bs : List UInt8) (h : 64 ≤ sh) : rdNum sh acc bs = none := by
  cases e : rdNum sh acc bs with
  | none => rfl
  | some q =>
    obtain ⟨u, r⟩ := q
    obtain ⟨v, _, h2, h3, _⟩ := (rdNum_iff bs sh acc u r).1 e
    have hv := h3 (by omega)
    have : 2 ^ 64 ≤ 2 ^ sh := Nat.pow_le_pow_right (by omega) h
    have h4 : 1 * 2 ^ sh ≤ v * 2 ^ sh := Nat.mul_le_mul_right _ hv
    omega
theorem rdNum_nine (acc : Nat) (c : UInt8) (cs : List UInt8) (h : 1 < c.toNat) : rdNum 63 acc (c :: cs) = none := by
  rw [rdNum]
  split
  · rfl
  · next h1 =>
    split
    · next h2 => exact absurd (.inr (by omega)) h1
    · exact rdNum_far _ _ _ (by omega)
theorem part_small (x k : Nat) (hk : k ≤ 9) (h : k = 9 → x ≤ 1) : ¬ 18446744073709551616 ≤ x % 128 * 2 ^ (7 * k) := by
  have hx : x % 128 < 128 := Nat.mod_lt _ (by decide)
  by_cases h9 : k = 9
  · subst h9; have := h rfl; omega
  · have h1 : 2 ^ (7 * k) ≤ 2 ^ 56 := Nat.pow_le_pow_right (by omega) (by omega)
    have h2 : x % 128 * 2 ^ (7 * k) ≤ 127 * 2 ^ 56 := Nat.mul_le_mul (by omega) h1
    omega

/-- What the reading of a number comes to. -/
def RNum (w : World) (lo rb : Nat) (p : Option Addr) (cap : Nat) (bs : List UInt8) (o : Option (Nat × List UInt8)) (e : Ending) (w' : World) : Prop :=
  Kept w w' rb none ∧ match o with
    | none => e = .returned (.int .u64 0) ∧ ∃ at', Rdr w' lo rb p cap bs at' true
    | some (u, r) => e = .returned (.int .u64 u) ∧ u < 18446744073709551616 ∧ ∃ at', bs.drop at' = r ∧ Rdr w' lo rb p cap bs at' false

set_option maxHeartbeats 4000000 in
set_option maxRecDepth 100000 in
theorem refNumber_any (w : World) (lo rb : Nat) (p : Option Addr) (cap : Nat) (bs : List UInt8) (at' : Nat) (h : Rdr w lo rb p cap bs at' false) :
    Calls Try.prog 54 #[.pointer (some ⟨rb, 0, none⟩)] w (RNum w lo rb p cap bs (rdNum 0 0 (bs.drop at'))) := by
  have hlen := h.len
  have hat := h.le
  have H0 := Lib.hid h; clear h
  go_enter Try.func54, Try.ntmps54
  go_wp2_with fail
  go_loopw [3, 4] (fun a s wr => ∃ (acc k : Nat), a = .int .u64 acc ∧ s = .int .i64 k ∧ k ≤ 9 ∧ acc < 2 ^ (7 * k) ∧ acc < 18446744073709551616 ∧ at' + k ≤ bs.length ∧ Hid (rdNum 0 0 (bs.drop at') = rdNum (7 * k) acc (bs.drop (at' + k))) ∧ Hid (Rdr wr lo rb p cap bs (at' + k) false) ∧ Hid (Kept w wr rb none)) (fun _ s _ => 10 - (intOf s).toNat)
  case atStart => exact ⟨0, 0, rfl, rfl, by omega, by simp, by decide, by omega, Lib.hid rfl, Lib.hid H0.out, Lib.hid (Kept.refl _ _ _)⟩
  case round =>
    obtain ⟨acc, k, rfl, rfl, hk9, hacc, hacc2, hk, HR, HI, HK⟩ := hrel
    have c2 := HI.out.c2
    by_cases hlt : at' + k < bs.length
    · have HRC : Hid (rdNum (7 * k) acc (bs.drop (at' + k)) = if (bs[at' + k].toNat = 0 ∧ 0 < 7 * k) ∨ 18446744073709551616 ≤ bs[at' + k].toNat % 128 * 2 ^ (7 * k) then none
          else if bs[at' + k].toNat < 128 then some (acc + bs[at' + k].toNat % 128 * 2 ^ (7 * k), bs.drop (at' + k + 1)) else rdNum (7 * k + 7) (acc + bs[at' + k].toNat % 128 * 2 ^ (7 * k)) (bs.drop (at' + k + 1))) := Lib.hid (by rw [List.drop_eq_getElem_cons hlt, rdNum])
      have HNINE : Hid (k = 9 → 1 < bs[at' + k].toNat → rdNum (7 * k) acc (bs.drop (at' + k)) = none) := Lib.hid fun h9 h1 => by
        rw [List.drop_eq_getElem_cons hlt]; subst h9; exact rdNum_nine _ _ _ h1
      have HN := Lib.hid (next_yes wr lo rb p cap bs (at' + k) false HI.out hlt)
      have hc256 := bs[at' + k].toNat_lt
      clear HI
      generalize bs[at' + k].toNat = x at *
      go_wp2_with fail
      go_at_call 53
      refine HN.out.mono ?_
      rintro e w' ⟨rfl, hr1, hk1⟩
      have HF := Lib.hid hr1.failed
      have HR1 := Lib.hid hr1
      have c2 := hr1.c2
      have f2 := hr1.f2
      have hrb := hr1.lt
      have HK1 := Lib.hid (HK.out.trans hk1 (.inl rfl))
      clear hr1 hk1 HN HK
      by_cases hbad : (k = 9 ∧ 1 < x) ∨ (0 < k ∧ x = 0)
      · have HNO : Hid (rdNum 0 0 (bs.drop at') = none) := Lib.hid (by
          rw [HR.out]
          rcases hbad with ⟨h9, h1⟩ | ⟨h9, h1⟩
          · exact HNINE.out h9 h1
          · rw [HRC.out, if_pos (.inl ⟨h1, by omega⟩)])
        clear HRC HNINE HR
        have HK2 := Lib.hid (HK1.out.trans HF.out.2 (.inl rfl))
        rcases hbad with ⟨h9, h1⟩ | ⟨h9, h1⟩
        · have g1 : (k : Int) = 9 := by omega
          have g2 : (1 : Int) < (x : Int) := by omega
          clear hacc hacc2
          subst h9
          go_wp2_with fail
          go_ret
          exact ⟨HK2.out, by rw [HNO.out]; exact ⟨rfl, _, HF.out.1⟩⟩
        · subst h1
          have g1 : (0 : Int) < (k : Int) := by omega
          clear hacc hacc2
          go_wp2_with fail
          all_goals go_ret
          all_goals exact ⟨HK2.out, by rw [HNO.out]; exact ⟨rfl, _, HF.out.1⟩⟩
      · have hsm := part_small x k hk9 (fun h9 => Nat.le_of_not_lt fun h1 => hbad (.inl ⟨h9, h1⟩))
        obtain ⟨part, back, hshl, _, _, hfine⟩ := digit_facts x k acc hc256 hacc hacc2
        obtain ⟨hp, _, hs, hs2⟩ := hfine hsm
        have hres := HR.out.trans (HRC.out.trans (if_neg (by rintro (h | h); exact hbad (.inr ⟨by omega, h.1⟩); exact hsm h)))
        rw [← hp] at hres hs hs2
        have hwk : IntKind.i64.wrap ((k : Int) + 1) = (k : Int) + 1 := by simp [IntKind.wrap, IntKind.bits, IntKind.signed]; omega
        have HV : Hid (IntKind.u64.wrap ((acc : Int) + IntKind.u64.wrap ((x : Int) % 128 * 2 ^ (7 * k))) = ((acc + part : Nat) : Int)) := Lib.hid (by
          have e : (x : Int) % 128 * 2 ^ (7 * k) = ((x % 128 * 2 ^ (7 * k) : Nat) : Int) := by push_cast; rfl
          rw [e, ← hp, IntKind.wrap_u64, IntKind.wrap_u64]; omega)
        have g1 : k = 9 → x = 1 := fun e => by
          have h1 : ¬ (1 < x) := fun h1 => hbad (.inl ⟨e, h1⟩)
          have h2 : ¬ x = 0 := fun h2 => hbad (.inr ⟨by omega, h2⟩)
          omega
        have g2 : 0 < k → ¬ x = 0 := fun e h => hbad (.inr ⟨e, h⟩)
        clear HRC HNINE HR hfine hsm HF hacc hbad hshl
        by_cases h9 : k = 9
        · obtain rfl := g1 h9
          subst h9
          rw [if_pos (by decide)] at hres
          have hp2 : part = 9223372036854775808 := hp
          have HV2 : Hid (IntKind.u64.wrap ((acc : Int) + 9223372036854775808) = ((acc + part : Nat) : Int)) := Lib.hid (by rw [IntKind.wrap_u64]; omega)
          have HRES := Lib.hid hres
          clear hres hs2 g2 hp hp2 HV hwk
          go_wp2_with fail
          go_ret
          exact ⟨HK1.out, by rw [HRES.out]; exact ⟨ret_u64 HV2.out, hs, _, rfl, HR1.out⟩⟩
        have g3 : ¬ (k : Int) = 9 := by omega
        clear hp g1
        by_cases hkp : 0 < k
        · have g4 : (0 : Int) < (k : Int) := by omega
          have g5 : ¬ (x : Int) = 0 := by have := g2 hkp; omega
          clear g2
          by_cases hx2 : x < 128
          · rw [if_pos hx2] at hres
            have HRES := Lib.hid hres
            have hx3 : (x : Int) < 128 := by omega
            clear hres hs2
            go_wp2_with fail
            go_ret
            exact ⟨HK1.out, by rw [HRES.out]; exact ⟨ret_u64 HV.out, hs, _, rfl, HR1.out⟩⟩
          · rw [if_neg hx2] at hres
            have HRES := Lib.hid hres
            have hx3 : ¬ (x : Int) < 128 := by omega
            clear hres
            go_wp2_with fail
            refine ⟨⟨acc + part, k + 1, by rw [HV.out], by simp, by omega, by rw [Nat.mul_add]; exact hs2, hs, by omega, Lib.hid (by rw [HRES.out, Nat.mul_add, Nat.add_assoc]), Lib.hid HR1.out, HK1⟩, by simp [intOf]; omega⟩
        · have g4 : ¬ (0 : Int) < (k : Int) := by omega
          clear g2
          by_cases hx2 : x < 128
          · rw [if_pos hx2] at hres
            have HRES := Lib.hid hres
            have hx3 : (x : Int) < 128 := by omega
            clear hres hs2
            go_wp2_with fail
            go_ret
            exact ⟨HK1.out, by rw [HRES.out]; exact ⟨ret_u64 HV.out, hs, _, rfl, HR1.out⟩⟩
          · rw [if_neg hx2] at hres
            have HRES := Lib.hid hres
            have hx3 : ¬ (x : Int) < 128 := by omega
            clear hres
            go_wp2_with fail
            refine ⟨⟨acc + part, k + 1, by rw [HV.out], by simp, by omega, by rw [Nat.mul_add]; exact hs2, hs, by omega, Lib.hid (by rw [HRES.out, Nat.mul_add, Nat.add_assoc]), Lib.hid HR1.out, HK1⟩, by simp [intOf]; omega⟩
    · have HNO : Hid (rdNum 0 0 (bs.drop at') = none) := Lib.hid (by rw [HR.out, List.drop_eq_nil_of_le (by omega), rdNum])
      have HN := Lib.hid (next_no wr lo rb p cap bs (at' + k) false HI.out (by omega))
      clear HI HR
      go_wp2_with fail
      go_at_call 53
      refine HN.out.mono ?_
      rintro e w' ⟨rfl, hr1, hk1⟩
      have HF := Lib.hid hr1.failed
      have HR1 := Lib.hid hr1
      have c2 := hr1.c2
      have f2 := hr1.f2
      have hrb := hr1.lt
      have HK1 := Lib.hid (HK.out.trans hk1 (.inl rfl))
      have HK2 := Lib.hid (HK1.out.trans HF.out.2 (.inl rfl))
      clear hr1 hk1 HN HK
      by_cases hk0 : k = 0
      · subst hk0
        obtain rfl : acc = 0 := by simpa using hacc
        go_wp2_with fail
        go_ret
        exact ⟨HK1.out, by rw [HNO.out]; exact ⟨rfl, _, HR1.out⟩⟩
      · have g1 : (0 : Int) < (k : Int) := by omega
        clear hacc hacc2
        go_wp2_with fail
        all_goals go_ret
        all_goals exact ⟨HK2.out, by rw [HNO.out]; exact ⟨rfl, _, HF.out.1⟩⟩
end Go.Proofs.Ytopkpdaingmmeaa
