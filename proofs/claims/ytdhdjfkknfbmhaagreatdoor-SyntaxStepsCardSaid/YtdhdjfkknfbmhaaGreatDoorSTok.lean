/- The parser: fail, require, end, sees, accept, enter. -/
import Derived.Test.YtdhdjfkknfbmhaaGreatDoorSBase
namespace Go.Proofs.YtdhdjfkknfbmhaaGreatDoor
open Go.RowKit

/-- The panic that ends the reading. -/
def failV (a : Nat) (e : Int) : List PanicEntry := [{ v := .iface 127 (.agg #[.int .i64 a, .int .i64 e]), recovered := false }]
theorem drop_head {w : World} {pb tb off cap : Nat} {M : Nat → Value} {L : List Tk} {i : Nat} (h : Psr w pb tb off cap M L i) : ∃ t r, L.drop i = t :: r := ⟨_, _, (List.getElem_cons_drop h.il).symm⟩

set_option maxHeartbeats 2000000 in
set_option maxRecDepth 100000 in
theorem pfail_any (x : Int) (w : World) (pb tb off cap : Nat) (M : Nat → Value) (L : List Tk) (i : Nat) (h : Psr w pb tb off cap M L i) :
    Calls Tryz.prog 160 #[.pointer (some ⟨pb, 0, none⟩), .int .i64 x] w fun e w' => e = .panicked (failV (atS (L.drop i)) x) ∧ Below w.heap.size w w' := by
  obtain ⟨t, r, hr⟩ := drop_head h
  have HN := Lib.hid (pnext_any w pb tb off cap M L i h t r hr)
  rw [hr]
  clear h hr
  have hfd := (tok_field t.k t.a (S t.t)).2.2
  unfold tokV at HN
  show Calls _ _ _ _ fun e w' => e = .panicked (failV t.a x) ∧ _
  go_enter Tryz.func160, Tryz.ntmps160
  go_wp2_with fail
  go_at_call 119
  refine HN.out.mono ?_
  rintro e w1 ⟨rfl, hb⟩
  go_wp2_with fail
  exact ⟨rfl, rfl, hb⟩

set_option maxHeartbeats 2000000 in
set_option maxRecDepth 100000 in
theorem require_any (b : Bool) (w : World) (pb tb off cap : Nat) (M : Nat → Value) (L : List Tk) (i : Nat) (h : Psr w pb tb off cap M L i) :
    Calls Tryz.prog 118 #[.pointer (some ⟨pb, 0, none⟩), .bool b] w fun e w' => e = (if b = true then .returned (.tuple #[]) else .panicked (failV (atS (L.drop i)) 60)) ∧ Below w.heap.size w w' := by
  have HF := Lib.hid (pfail_any 60 w pb tb off cap M L i h)
  clear h
  cases b with
  | true =>
    go_enter Tryz.func118, Tryz.ntmps118
    go_wp2_with fail
    refine bodyPost_end (v := .tuple #[]) ?_ rfl ⟨rfl, Below.refl _ _⟩
    simp [results, Tryz.results118, go_sem]
  | false =>
    go_enter Tryz.func118, Tryz.ntmps118
    go_wp2_with fail
    go_at_call 160
    refine HF.out.mono ?_
    rintro e w1 ⟨rfl, hb⟩
    go_wp2_with fail
    exact ⟨rfl, rfl, hb⟩

set_option maxHeartbeats 2000000 in
set_option maxRecDepth 100000 in
theorem sees_any (s : Bs) (_ : s.length ≤ 1000) (w : World) (pb tb off cap : Nat) (M : Nat → Value) (L : List Tk) (i : Nat) (h : Psr w pb tb off cap M L i) :
    Calls Tryz.prog 92 #[.pointer (some ⟨pb, 0, none⟩), .string (S s)] w fun e w' => e = .returned (.bool (seesS s (L.drop i))) ∧ Below w.heap.size w w' := by
  obtain ⟨t, r, hr⟩ := drop_head h
  have HN := Lib.hid (pnext_any w pb tb off cap M L i h t r hr)
  rw [hr]
  clear h hr
  unfold tokV at HN
  have HE : Hid (seesS s (t :: r) = ((t.k == 1 || t.k == 5) && t.t == s)) := Lib.hid rfl
  generalize seesS s (t :: r) = R at *
  have HT : Hid (((S t.t).toList == (S s).toList) = (t.t == s)) := Lib.hid (by rw [S_toList, S_toList])
  rw [← HT.out] at HE
  have go : ∀ w1, Below w.heap.size w w1 → Below w.heap.size w (w1.alloc (.cells #[.int .i64 t.k, .string (S t.t), .int .i64 t.a] 57)) := fun w1 hb => hb.alloc hb.size _
  cases hk1 : (t.k == 1) with
  | true =>
    rw [hk1] at HE
    go_enter Tryz.func92, Tryz.ntmps92
    go_wp2_with fail
    go_at_call 119
    refine HN.out.mono ?_
    rintro e w1 ⟨rfl, hb⟩
    go_wp2_with fail
    go_ret
    exact ⟨ret_bool HE.out.symm, go w1 hb⟩
  | false =>
    rw [hk1] at HE
    cases hk5 : (t.k == 5) with
    | true =>
      rw [hk5] at HE
      go_enter Tryz.func92, Tryz.ntmps92
      go_wp2_with fail
      go_at_call 119
      refine HN.out.mono ?_
      rintro e w1 ⟨rfl, hb⟩
      go_wp2_with fail
      go_ret
      exact ⟨ret_bool HE.out.symm, go w1 hb⟩
    | false =>
      rw [hk5] at HE
      go_enter Tryz.func92, Tryz.ntmps92
      go_wp2_with fail
      go_at_call 119
      refine HN.out.mono ?_
      rintro e w1 ⟨rfl, hb⟩
      go_wp2_with fail
      go_ret
      exact ⟨ret_bool HE.out.symm, go w1 hb⟩

/-- What a token that is seen says of the rest. -/
theorem sees_next {w : World} {pb tb off cap : Nat} {M : Nat → Value} {L : List Tk} {i : Nat} (h : Psr w pb tb off cap M L i) {s : Bs} (hs : seesS s (L.drop i) = true) : ∃ t r, L.drop i = t :: r ∧ r ≠ [] ∧ t.t = s := by
  obtain ⟨t, r, hr⟩ := drop_head h
  obtain ⟨-, -, h6, -⟩ := h.head hr
  rw [hr] at hs
  simp only [seesS, Bool.and_eq_true, Bool.or_eq_true, beq_iff_eq] at hs
  refine ⟨t, r, hr, fun e => ?_, hs.2⟩
  have := h6.2 e
  omega

set_option maxHeartbeats 2000000 in
set_option maxRecDepth 100000 in
theorem accept_any (s : Bs) (hs : s.length ≤ 1000) (w : World) (pb tb off cap : Nat) (M : Nat → Value) (L : List Tk) (i : Nat) (h : Psr w pb tb off cap M L i) :
    Calls Tryz.prog 122 #[.pointer (some ⟨pb, 0, none⟩), .string (S s)] w fun e w' => e = .returned (.bool (seesS s (L.drop i))) ∧ Psr w' pb tb off cap M L (if seesS s (L.drop i) = true then i + 1 else i) ∧ Kp w w' pb := by
  have HS := Lib.hid (sees_any s hs w pb tb off cap M L i h)
  have HP := Lib.hid h
  cases hq : seesS s (L.drop i) with
  | true =>
    rw [hq] at HS
    obtain ⟨t, r, hr, hne, -⟩ := sees_next h hq
    have HT : Hid (∀ w1, Below w.heap.size w w1 → Calls Tryz.prog 120 #[.pointer (some ⟨pb, 0, none⟩)] w1 fun e w' => e = .returned (.string (S t.t)) ∧ Psr w' pb tb off cap M L (i + 1) ∧ Kp w1 w' pb) := Lib.hid fun w1 hb => ptake_any w1 pb tb off cap M L i (h.bel hb (Nat.le_refl _)) t r hr hne
    clear h hq hr
    go_enter Tryz.func122, Tryz.ntmps122
    go_wp2_with fail
    go_at_call 92
    refine HS.out.mono ?_
    rintro e w1 ⟨rfl, hb⟩
    go_wp2_with fail
    go_at_call 120
    refine (HT.out w1 hb).mono ?_
    rintro e w2 ⟨rfl, hp, hk⟩
    have HB := Lib.hid hb
    have HP2 := Lib.hid hp
    have HK2 := Lib.hid hk
    clear hb hp hk
    go_wp2_with fail
    go_ret
    exact ⟨rfl, HP2.out, (Kp.ofBelow HB.out (Nat.le_refl _)).trans HK2.out⟩
  | false =>
    rw [hq] at HS
    clear h hq
    go_enter Tryz.func122, Tryz.ntmps122
    go_wp2_with fail
    go_at_call 92
    refine HS.out.mono ?_
    rintro e w1 ⟨rfl, hb⟩
    have HB := Lib.hid hb
    clear hb
    go_wp2_with fail
    go_ret
    exact ⟨rfl, HP.out.bel HB.out (Nat.le_refl _), Kp.ofBelow HB.out (Nat.le_refl _)⟩

set_option maxHeartbeats 2000000 in
set_option maxRecDepth 100000 in
theorem enter_any (s : Bs) (hs : s.length ≤ 1000) (d : Nat) (hd : d ≤ 1000) (w : World) (pb tb off cap : Nat) (M : Nat → Value) (L : List Tk) (i : Nat) (h : Psr w pb tb off cap M L i) :
    Calls Tryz.prog 134 #[.pointer (some ⟨pb, 0, none⟩), .string (S s), .int .i64 d] w fun e w' =>
      if seesS s (L.drop i) = true ∧ 16 ≤ d then e = .panicked (failV (atS (L.drop i)) 2) ∧ Below w.heap.size w w'
      else e = .returned (.bool (seesS s (L.drop i))) ∧ Psr w' pb tb off cap M L (if seesS s (L.drop i) = true then i + 1 else i) ∧ Kp w w' pb := by
  have HS := Lib.hid (sees_any s hs w pb tb off cap M L i h)
  have HA : Hid (∀ w1, Below w.heap.size w w1 → Calls Tryz.prog 122 #[.pointer (some ⟨pb, 0, none⟩), .string (S s)] w1 fun e w' => e = .returned (.bool (seesS s (L.drop i))) ∧ Psr w' pb tb off cap M L (if seesS s (L.drop i) = true then i + 1 else i) ∧ Kp w w' pb) := Lib.hid fun w1 hb => (accept_any s hs w1 pb tb off cap M L i (h.bel hb (Nat.le_refl _))).mono (by
    rintro e w2 ⟨h1, h2, h3⟩
    exact ⟨h1, h2, (Kp.ofBelow hb (Nat.le_refl _)).trans h3⟩)
  have HF : Hid (∀ w1, Below w.heap.size w w1 → Calls Tryz.prog 160 #[.pointer (some ⟨pb, 0, none⟩), .int .i64 2] w1 fun e w' => e = .panicked (failV (atS (L.drop i)) 2) ∧ Below w.heap.size w w') := Lib.hid fun w1 hb => (pfail_any 2 w1 pb tb off cap M L i (h.bel hb (Nat.le_refl _))).mono (by
    rintro e w2 ⟨h1, h2⟩
    exact ⟨h1, hb.trans (h2.mono hb.size)⟩)
  clear h
  obtain ⟨at', hat⟩ : ∃ a, atS (L.drop i) = a := ⟨_, rfl⟩
  obtain ⟨q, hq⟩ : ∃ q, seesS s (L.drop i) = q := ⟨_, rfl⟩
  rw [hq] at HS HA
  rw [hat] at HF
  rw [hat, hq]
  clear hat hq
  cases q with
  | true =>
    by_cases h16 : 16 ≤ d
    · have hi : (16 : Int) ≤ (d : Int) := by omega
      simp only [true_and, if_pos h16]
      go_enter Tryz.func134, Tryz.ntmps134
      go_wp2_with (go_at_call 92; refine HS.out.mono ?_; rintro e w1 ⟨rfl, hb⟩; have HB := Lib.hid hb; clear hb)
      go_at_call 160
      refine (HF.out _ HB.out).mono ?_
      rintro e w2 ⟨rfl, hb⟩
      go_wp2_with fail
      exact ⟨rfl, rfl, hb⟩
    · have hi : ¬ (16 : Int) ≤ (d : Int) := by omega
      simp only [true_and, if_neg h16, if_true]
      simp only [if_true] at HA
      go_enter Tryz.func134, Tryz.ntmps134
      go_wp2_with (go_at_call 92; refine HS.out.mono ?_; rintro e w1 ⟨rfl, hb⟩; have HB := Lib.hid hb; clear hb)
      go_at_call 122
      refine (HA.out _ HB.out).mono ?_
      rintro e w2 ⟨rfl, hp, hk⟩
      have HP2 := Lib.hid hp
      have HK2 := Lib.hid hk
      clear hp hk
      go_wp2_with fail
      go_ret
      exact ⟨rfl, HP2.out, HK2.out⟩
  | false =>
    simp only [Bool.false_eq_true, false_and, if_false]
    simp only [Bool.false_eq_true, if_false] at HA
    go_enter Tryz.func134, Tryz.ntmps134
    go_wp2_with (go_at_call 92; refine HS.out.mono ?_; rintro e w1 ⟨rfl, hb⟩; have HB := Lib.hid hb; clear hb)
    go_at_call 122
    refine (HA.out _ HB.out).mono ?_
    rintro e w2 ⟨rfl, hp, hk⟩
    have HP2 := Lib.hid hp
    have HK2 := Lib.hid hk
    clear hp hk
    go_wp2_with fail
    go_ret
    exact ⟨rfl, HP2.out, HK2.out⟩
end Go.Proofs.YtdhdjfkknfbmhaaGreatDoor
