/- Tokens that end before a blank or a remark. -/
import Derived.Test.YtlcmedimgoaneaaGreatDoorKSwap
namespace Go.Proofs.YtlcmedimgoaneaaGreatDoor

theorem qt_swap (a b c s : Bs) (n : Nat) (h : qt (34 :: a ++ b) = some (s, n)) (hn : n ≤ (34 :: a).length) : qt (34 :: a ++ c) = some (s, n) := by
  unfold qt at h ⊢
  simp only [List.cons_append, List.tail_cons, List.length_cons, List.length_append] at h hn ⊢
  split at h
  · rename_i hq
    simp only [Option.some.injEq, Prod.mk.injEq] at h
    obtain ⟨rfl, rfl⟩ := h
    have hL := (body_len _ (a ++ b) (Nat.le_refl _)).1
    rw [List.length_append] at hL
    have hlt : b.length < (body (a ++ b)).2.length := by omega
    have hb := body_swap _ a b c (Nat.le_refl _) hlt hq
    have hk : 0 < (body (a ++ b)).2.length - b.length := by omega
    have hh : (List.take ((body (a ++ b)).2.length - b.length) (body (a ++ b)).2 ++ c).head? = some 34 := by
      cases hz : (body (a ++ b)).2 with
      | nil => rw [hz] at hq; cases hq
      | cons z r =>
        rw [hz] at hk hq
        obtain ⟨k, hk2⟩ : ∃ k, (z :: r).length - b.length = k + 1 := ⟨(z :: r).length - b.length - 1, by omega⟩
        rw [hk2, List.take_succ_cons]
        exact hq
    rw [hb]
    simp only
    rw [if_pos hh]
    congr 1
    congr 1
    rw [List.length_append, List.length_take]
    omega
  · cases h

theorem take_swap {α} (a b c : List α) (n : Nat) (h : n ≤ a.length) : (a ++ b).take n = (a ++ c).take n := by
  rw [List.take_append_of_le_length h, List.take_append_of_le_length h]
theorem tok_swap (x : UInt8) (a b c : Bs) (hc : c.head? = some 32 ∨ c.head? = some 35) (h : (tok (x :: a ++ b)).2.2 ≤ (x :: a).length)
    (hq : x = 34 → qt (x :: a ++ b) = none → qt (x :: a ++ c) = none) : tok (x :: a ++ c) = tok (x :: a ++ b) := by
  have c0 : isW (c.headD 0) = false ∧ c.headD 0 ≠ 58 ∧ c.headD 0 ≠ 46 ∧ c.head? ≠ some 46 ∧ c.head? ≠ some 61 := by
    have e : c.headD 0 = (c.head?).getD 0 := by cases c <;> rfl
    rw [e]
    rcases hc with hc | hc <;> rw [hc] <;> decide
  obtain ⟨c1, c2, c3, c4, c5⟩ := c0
  rw [List.cons_append] at h hq ⊢
  rw [List.cons_append] at hq ⊢
  rw [tok_cons] at h
  rw [tok_cons, tok_cons]
  by_cases a1 : isL x = true
  · rw [if_pos a1] at h
    simp only at h
    have := wdLen_swap a b c (by simpa using h) c1
    rw [if_pos a1, if_pos a1, this, ← List.cons_append, ← List.cons_append, take_swap (x :: a) c b _ h]
  rw [if_neg a1] at h
  rw [if_neg a1, if_neg a1]
  have hD : (isD x = true ∨ x = 45 ∧ isD ((a ++ b).headD 0) = true) ↔ (isD x = true ∨ x = 45 ∧ isD ((a ++ c).headD 0) = true) := by
    cases a with
    | cons y a => exact Iff.rfl
    | nil =>
      rw [List.nil_append, List.nil_append, isD_of_notW c1]
      by_cases hx : isD x = true
      · simp [hx]
      · by_cases hb : x = 45 ∧ isD (b.headD 0) = true
        · rw [List.nil_append, if_pos (Or.inr hb)] at h
          cases b with
          | nil => exact absurd hb.2 (by decide)
          | cons y b =>
            have hw : isW y = true := by unfold isW; rw [show isD y = true from hb.2]; simp
            rw [numLen, if_pos (Or.inl hw)] at h
            simp at h
        · simp [hx]
          intro hx4
          simpa [hx4] using hb
  by_cases a2 : isD x = true ∨ x = 45 ∧ isD ((a ++ b).headD 0) = true
  · rw [if_pos a2] at h
    simp only at h
    have := numLen_swap a b c (by simpa using h) c1 c2 c3
    rw [if_pos a2, if_pos (hD.1 a2), this, ← List.cons_append, ← List.cons_append, take_swap (x :: a) c b _ h]
  rw [if_neg a2] at h
  rw [if_neg a2, if_neg (fun h => a2 (hD.2 h))]
  by_cases a3 : x = 34
  · subst a3
    rw [if_pos rfl] at h
    rw [if_pos rfl, if_pos rfl]
    cases hb : qt (34 :: (a ++ b)) with
    | none => rw [hq rfl hb]
    | some q =>
      obtain ⟨s, n⟩ := q
      rw [hb] at h
      have := qt_swap a b c s n hb h
      rw [List.cons_append] at this
      rw [this]
  rw [if_neg a3] at h
  rw [if_neg a3, if_neg a3]
  have hs : sgn (x :: (a ++ c)) = sgn (x :: (a ++ b)) := by
    refine sgn_swap x a b c ?_ c4 c5
    rw [List.cons_append]
    by_cases a4 : sgn (x :: (a ++ b)) ≠ []
    · rw [if_pos a4] at h; exact h
    · have : sgn (x :: (a ++ b)) = [] := by simpa using a4
      rw [this]; simp
  rw [hs]
  simp

/-- What a digit or a minus sign with digits begins. -/
def numy (t : Bs) : Prop := ∃ c r, t = c :: r ∧ good r = true ∧ isL c = false ∧ (isD c = true ∨ c = 45 ∧ isD (r.headD 0) = true)
theorem isL_of_D {c : UInt8} (h : isD c = true) : isL c = false := by
  have := isD_bounds h
  unfold isL; simp; omega
theorem good_all {l : Bs} (h : l.all isD = true) : good l = true := by
  have := good_digits l [] h rfl
  rwa [List.append_nil] at this
theorem num_head {l : Bs} (h : num l = true) : ∃ c r, l = c :: r ∧ isD c = true ∧ r.all isD = true := by
  obtain ⟨h1, h2, _⟩ := num_all h
  cases l with
  | nil => simp at h2
  | cons c r =>
    simp only [List.all_cons, Bool.and_eq_true] at h1
    exact ⟨c, r, rfl, h1⟩
theorem int_numy {t : Bs} (h : int t = true) : numy t := by
  unfold int at h
  split at h
  · rename_i h0
    simp only [Bool.and_eq_true] at h
    obtain ⟨c, r, e, hd, hr⟩ := num_head h.1
    cases t with
    | nil => cases h0
    | cons x t =>
      have hx : x = 45 := by simpa using h0
      rw [List.tail_cons] at e
      refine ⟨x, t, rfl, ?_, by rw [hx]; decide, Or.inr ⟨hx, by rw [e]; exact hd⟩⟩
      rw [e]
      exact good_all (by simp [hd, hr])
  · obtain ⟨c, r, e, hd, hr⟩ := num_head h
    exact ⟨c, r, e, good_all hr, isL_of_D hd, Or.inl hd⟩
theorem six_dig {l : Bs} {n : Nat} (h : six l = some n) : l ≠ [] ∧ l.all isD = true := by
  unfold six at h
  split at h
  · rename_i hc
    exact ⟨by rintro rfl; simp at hc, hc.2.1⟩
  · cases h
theorem frac_digits {l : Bs} {n : Nat} (h : frac l = some n) : l ≠ [] ∧ l.all isD = true := by
  unfold frac at h
  split at h
  · rename_i hc
    exact ⟨by rintro rfl; simp at hc, hc.2.2⟩
  · cases h
theorem secs_good {w : Bs} {s : Nat} (h : secs w = some s) (x : Bs) (hx : good x = true) : (∃ c r, w = c :: r ∧ isD c = true) ∧ good (w ++ x) = true := by
  unfold secs at h
  split at h
  · cases h
  rename_i hn
  have hn : num (cutB 58 w).1 = true := by simpa using hn
  rcases cutB_cases 58 w with ⟨h1, _⟩ | ⟨a, b, h1, _, h2⟩
  · rw [h1] at hn
    obtain ⟨c, r, e, hd, hr⟩ := num_head hn
    exact ⟨⟨c, r, e, hd⟩, good_digits _ _ (num_all hn).1 hx⟩
  · rw [h2] at hn h
    obtain ⟨c, r, e, hd, hr⟩ := num_head hn
    refine ⟨⟨c, r ++ 58 :: b, by rw [h1, show a = c :: r from e]; rfl, hd⟩, ?_⟩
    rw [h1, List.append_assoc]
    refine good_digits _ _ (num_all hn).1 ?_
    simp only [Bool.true_eq_false, if_false] at h
    rcases cutB_cases 58 b with ⟨h3, _⟩ | ⟨a', b', h3, _, h4⟩
    · rw [h3] at h
      simp only at h
      split at h
      · cases h
      · rename_i m hm
        obtain ⟨k1, k2⟩ := six_dig hm
        exact good_sep (Or.inl rfl) _ _ k1 k2 hx
    · rw [h4] at h
      simp only [Bool.true_eq_false, if_false] at h
      split at h
      · cases h
      · rename_i m hm
        split at h
        · cases h
        · rename_i m2 hm2
          obtain ⟨k1, k2⟩ := six_dig hm
          obtain ⟨k3, k4⟩ := six_dig hm2
          have e2 : b ++ x = a' ++ 58 :: (b' ++ x) := by rw [h3]; simp
          rw [List.cons_append, e2]
          exact good_sep (Or.inl rfl) _ _ k1 k2 (good_sep (Or.inl rfl) _ _ k3 k4 hx)
theorem absV_good {u : Bs} {n : Nat} (h : absV u = some n) : (∃ c r, u = c :: r ∧ isD c = true) ∧ good u = true ∧ num u = false := by
  unfold absV at h
  split at h
  · rename_i s f hs hf
    split at h
    · cases h
    rename_i hno
    rcases cutB_cases 46 u with ⟨h1, _⟩ | ⟨a, b, h1, _, h2⟩
    · rw [h1] at hs hno
      have k := secs_good hs [] rfl
      rw [List.append_nil] at k
      refine ⟨k.1, k.2, ?_⟩
      refine num_no58 ?_
      rcases cutB_cases 58 u with ⟨h3, _⟩ | ⟨a, b, h3, _, h4⟩
      · rw [h3] at hno; simp at hno
      · rw [h3]; simp
    · rw [h2] at hs hf
      simp only [if_true] at hf
      obtain ⟨k1, k2⟩ := frac_digits hf
      have k := secs_good hs (46 :: b) (by have := good_sep (Or.inr rfl) _ [] k1 k2 rfl; rwa [List.append_nil] at this)
      obtain ⟨⟨c, r, e, hd⟩, kg⟩ := k
      refine ⟨⟨c, r ++ 46 :: b, by rw [h1, show a = c :: r from e]; rfl, hd⟩, by rw [h1]; exact kg, ?_⟩
      cases hn : num u with
      | false => rfl
      | true =>
        have := List.all_eq_true.1 (num_all hn).1 46 (by rw [h1]; simp)
        exact absurd this (by decide)
  · cases h
theorem time_numy {t : Bs} (h : (timeV t).isSome = true) : numy t ∧ int t = false := by
  unfold timeV at h
  split at h
  · rename_i h0
    cases ha : absV t.tail with
    | none => rw [ha] at h; cases h
    | some n =>
      obtain ⟨⟨c, r, e, hd⟩, hg, hn⟩ := absV_good ha
      cases t with
      | nil => cases h0
      | cons x t =>
        have hx : x = 45 := by simpa using h0
        rw [List.tail_cons] at e hg hn
        refine ⟨⟨x, t, rfl, hg, by rw [hx]; decide, Or.inr ⟨hx, by rw [e]; exact hd⟩⟩, ?_⟩
        unfold int
        rw [if_pos h0, List.tail_cons, hn]; rfl
  · rename_i h0
    cases ha : absV t with
    | none => rw [ha] at h; cases h
    | some n =>
      obtain ⟨⟨c, r, e, hd⟩, hg, hn⟩ := absV_good ha
      refine ⟨⟨c, r, e, ?_, isL_of_D hd, Or.inl hd⟩, ?_⟩
      · rw [e, good, Bool.and_eq_true] at hg; exact hg.2
      · unfold int
        rw [if_neg h0, hn]
end Go.Proofs.YtlcmedimgoaneaaGreatDoor
