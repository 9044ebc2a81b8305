/- The last token, and it alone, is of kind 6; how long texts are. -/
import Derived.Test.YtdhdjfkknfbmhaaGreatDoorSSteps
import Derived.Test.YtdhdjfkknfbmhaaGreatDoorKTok
namespace Go.Proofs.YtdhdjfkknfbmhaaGreatDoor
open Go.RowKit

theorem tok_small {r : Bs} (hr : r ≠ []) : (tok r).1 ≠ 6 ∧ ((tok r).1 ≠ 0 → (tok r).2.1.length ≤ r.length) := by
  match r, hr with
  | c :: t, _ =>
    rw [tok_cons]
    split
    · exact ⟨by simp, fun _ => by rw [List.length_take]; omega⟩
    · split
      · refine ⟨?_, fun _ => by rw [List.length_take]; omega⟩
        dsimp only
        split
        · decide
        · split <;> decide
      · split
        · cases hq : qt (c :: t) with
          | none => exact ⟨by simp, fun h => absurd rfl h⟩
          | some q =>
            have := qt_le (r := c :: t) (by simp) (s := q.1) (n := q.2) hq
            exact ⟨by simp, fun _ => by dsimp only; omega⟩
        · split
          · exact ⟨by simp, fun _ => (sgn_pre (c :: t)).length_le⟩
          · exact ⟨by simp, fun h => absurd rfl h⟩
structure Fin6 (L : List Tk) : Prop where
  ne : L ≠ []
  fin : ∀ j (h : j < L.length), L[j].k = 6 ↔ j + 1 = L.length
theorem Fin6.one (t : Bs) (a : Nat) : Fin6 [⟨6, t, a⟩] := ⟨by simp, fun j h => by
  have : j = 0 := by simpa using h
  subst this
  simp⟩
theorem Fin6.cons {x : Tk} {L : List Tk} (h : Fin6 L) (hx : x.k ≠ 6) : Fin6 (x :: L) := by
  have hl := List.length_pos_iff.2 h.ne
  refine ⟨by simp, fun j hj => ?_⟩
  cases j with
  | zero =>
    simp only [List.getElem_cons_zero, List.length_cons]
    exact ⟨fun e => absurd e hx, fun e => by omega⟩
  | succ j =>
    have := h.fin j (by simpa using hj)
    simp only [List.getElem_cons_succ, List.length_cons]
    rw [this]
    omega
structure Small (n : Nat) (L : List Tk) : Prop where
  f : Fin6 L
  len : L.length ≤ n + 1
  tl : ∀ x ∈ L, x.t.length ≤ 100000
theorem lex_fin : ∀ (f : Nat) (r : Bs) (p : Nat) (e : Int) (m : Nat), r.length < f → r.length ≤ 100000 → Small r.length (lex f r p e m).1
  | 0, r, p, e, m, h, _ => by omega
  | f + 1, r, p, e, m, h, h2 => by
    rw [lex_S]
    have hs := skp_len false r
    generalize hq : skp false r = s at *
    generalize p + (r.length - s.length) = p
    unfold lexS
    dsimp only
    have up : ∀ {L : List Tk} {k : Nat}, Small k L → k ≤ r.length → Small r.length L := fun h hk => ⟨h.f, by have := h.len; omega, h.tl⟩
    by_cases h0 : s = []
    · rw [if_pos h0]
      exact ⟨Fin6.one _ _, by simp, by simp⟩
    · rw [if_neg h0]
      obtain ⟨t1, t2⟩ := tok_le h0
      obtain ⟨k1, k2⟩ := tok_small h0
      have hd : (s.drop (tok s).2.2).length = s.length - (tok s).2.2 := List.length_drop
      have IH := fun e m => lex_fin f (s.drop (tok s).2.2) (p + (tok s).2.2) e m (by omega) (by omega)
      by_cases hk : (tok s).1 = 0
      · rw [if_pos hk]
        split
        · exact up (IH _ _) (by omega)
        · exact up (IH _ _) (by omega)
      · rw [if_neg hk]
        have ih := IH e m
        refine ⟨ih.f.cons k1, by have := ih.len; simp only [List.length_cons]; omega, fun x hx => ?_⟩
        rcases List.mem_cons.1 hx with rfl | hx
        · exact Nat.le_trans (k2 hk) (by omega)
        · exact ih.tl x hx
theorem tokens_fin (l : Bs) (h : l.length ≤ 100000) : Small l.length (tokens l).1 := lex_fin (l.length + 1) l 0 (-1) 0 (by omega) h


set_option maxHeartbeats 4000000 in
set_option maxRecDepth 100000 in
theorem pend_any (w : World) (pb tb off cap : Nat) (M : Nat → Value) (L : List Tk) (i : Nat) (h : Psr w pb tb off cap M L i) :
    Calls Tryz.prog 63 #[.pointer (some ⟨pb, 0, none⟩)] w fun e w' => e = (if kindS 6 (L.drop i) = true then .returned (.tuple #[]) else .panicked (failV (atS (L.drop i)) 60)) ∧ Below w.heap.size w w' := by
  obtain ⟨t, r, hr⟩ := drop_head h
  have HN := Lib.hid (pnext_any w pb tb off cap M L i h t r hr)
  have HRQ : Hid (∀ w1, Below w.heap.size w w1 → ∀ b, Calls Tryz.prog 118 #[.pointer (some ⟨pb, 0, none⟩), .bool b] w1 fun e w' => e = (if b = true then .returned (.tuple #[]) else .panicked (failV (atS (L.drop i)) 60)) ∧ Below w1.heap.size w1 w') := Lib.hid fun w1 hb b => require_any b w1 pb tb off cap M L i (h.bel hb (Nat.le_refl _))
  have hk : kindS 6 (L.drop i) = (t.k == 6) := by rw [hr]; rfl
  rw [hk]
  clear h hr hk
  generalize atS (L.drop i) = at' at HRQ ⊢
  unfold tokV at HN
  have hfd := (tok_field t.k t.a (S t.t)).1
  cases hb : (t.k == 6) with
  | true =>
    go_enter Tryz.func63, Tryz.ntmps63
    go_wp2_with fail
    go_at_call 119
    refine HN.out.mono ?_
    rintro e w1 ⟨rfl, hb1⟩
    have HB1 := Lib.hid hb1
    clear hb1
    go_wp2_with (go_at_call 118; refine (HRQ.out _ HB1.out true).mono ?_; rintro e w2 ⟨rfl, hb⟩; have HB2 := Lib.hid (HB1.out.trans (hb.mono HB1.out.size)); clear hb)
    refine bodyPost_end (v := .tuple #[]) ?_ rfl ⟨rfl, HB2.out⟩
    simp [results, Tryz.results63, go_sem]
  | false =>
    go_enter Tryz.func63, Tryz.ntmps63
    go_wp2_with fail
    go_at_call 119
    refine HN.out.mono ?_
    rintro e w1 ⟨rfl, hb1⟩
    have HB1 := Lib.hid hb1
    clear hb1
    go_wp2_with (go_at_call 118; refine (HRQ.out _ HB1.out false).mono ?_; rintro e w2 ⟨rfl, hb⟩; have HB2 := Lib.hid (HB1.out.trans (hb.mono HB1.out.size)); clear hb)
    exact ⟨rfl, rfl, HB2.out⟩
end Go.Proofs.YtdhdjfkknfbmhaaGreatDoor
