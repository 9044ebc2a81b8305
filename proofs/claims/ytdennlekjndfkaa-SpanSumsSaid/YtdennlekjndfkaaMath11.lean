/- Plain mathematics for SpanSums and SpanPoints. -/
import Derived.Test.YtdennlekjndfkaaMath10
namespace Go.Proofs.Ytdennlekjndfkaa

theorem errLL_comm0 {a b : List Sp} (h : errLL a b = 0) : errLL b a = 0 := by
  obtain ⟨h1, h2⟩ := errLL_zero h
  unfold errLL; rw [if_pos h2, h1]
theorem sm_comm (x y : Sp) : sm x y = sm y x := by unfold sm; rw [Int.add_comm, Int.add_comm x.2]
theorem allOk_comm (a b : List Sp) : allOk a b = allOk b a := by
  rw [Bool.eq_iff_iff]; unfold allOk rowOk; simp only [List.all_eq_true]
  constructor
  · intro h x hx y hy; rw [sm_comm]; exact h y hy x hx
  · intro h x hx y hy; rw [sm_comm]; exact h y hy x hx
theorem addC_comm {a b : List Sp} (ha : Pos a) (hb : Pos b) : addC (canon a) (canon b) = addC (canon b) (canon a) :=
  tidy_unique _ _ (addC_mem ha hb).1 (addC_mem hb ha).1 fun t => by
    rw [(addC_mem ha hb).2, (addC_mem hb ha).2]
    constructor
    · rintro ⟨s, h1, h2⟩; exact ⟨t - s, h2, by rw [show t - (t - s) = s by omega]; exact h1⟩
    · rintro ⟨s, h1, h2⟩; exact ⟨t - s, h2, by rw [show t - (t - s) = s by omega]; exact h1⟩
theorem add_comm_ (a b : List Sp) : addS a b = addS b a ∧ (addE a b = 0 ↔ addE b a = 0) := by
  by_cases h : errLL a b = 0
  · have h2 := errLL_comm0 h
    have hp := errLL_pos h
    have e1 := addC_comm hp.1 hp.2
    have e2 := allOk_comm (canon a) (canon b)
    unfold addS addE
    rw [if_pos h, if_pos h2, if_pos h, if_pos h2, Nat.mul_comm (canon a).length, e1, e2]
    exact ⟨rfl, Iff.rfl⟩
  · have h2 : ¬ errLL b a = 0 := fun h2 => h (errLL_comm0 h2)
    unfold addS addE
    rw [if_neg h, if_neg h2, if_neg h, if_neg h2]
    exact ⟨rfl, ⟨fun x => absurd x h, fun x => absurd x h2⟩⟩
theorem addS_err {a b : List Sp} (h : ¬ addE a b = 0) : addS a b = [] := by
  unfold addE at h
  unfold addS
  split
  · next g =>
    rw [if_pos g] at h
    split
    · rfl
    · next g2 =>
      rw [if_neg g2] at h
      split
      · next g3 =>
        rw [if_pos g3] at h
        unfold limE at h
        unfold limS
        split
        · rfl
        · next g4 => rw [if_neg g4] at h; exact absurd rfl h
      · rfl
  · rfl
theorem add_in {a b : List Sp} (h : addE a b = 0) {s t : Int} (h1 : inS a s = true) (h2 : inS b t = true) : inS (addS a b) (s + t) = true := by
  obtain ⟨e, hx⟩ := add_zero' h
  have hp := errLL_pos e
  rw [mem_inS] at *
  rw [hx, (addC_mem hp.1 hp.2).2]
  exact ⟨s, h1, by rw [show s + t - s = t by omega]; exact h2⟩
theorem in_range {a : List Sp} (h : errL a = 0) {s : Int} (h1 : inS a s = true) : -70368744177664 ≤ s ∧ s ≤ 70368744177664 := by
  rw [mem_inS] at h1
  obtain ⟨x, hx, h2, h3⟩ := h1
  have := (okSp_iff x).1 ((errL_all h).2 x hx)
  omega
/-- A list of the best kind: tidy, valid, not too long. -/
def Best (l : List Sp) : Prop := Tidy l ∧ (∀ s ∈ l, okSp s = true) ∧ l.length ≤ 4096
theorem best_nil : Best [] := ⟨tidy_nil, by simp, by simp⟩
theorem limE_len {l : List Sp} (h : limE l = 0) : l.length ≤ 4096 := by
  unfold limE at h
  split at h
  · cases h
  · omega
theorem add_best {a b : List Sp} (h : addE a b = 0) : Best (addS a b) := by
  obtain ⟨e, hx⟩ := add_zero' h
  have hp := errLL_pos e
  have ht := (addC_mem hp.1 hp.2).1
  unfold addE at h
  rw [if_pos e] at h
  split at h
  · cases h
  · split at h
    · next g3 =>
      rw [hx]
      refine ⟨ht, ?_, limE_len h⟩
      rw [addC_canon (canon_tidy a hp.1).1.1 (canon_tidy b hp.2).1.1]
      refine canon_okSp _ fun x hx => ?_
      rw [allOk_sums] at g3
      exact List.all_eq_true.1 g3 x hx
    · cases h
theorem tidy_gap {z : Sp} : ∀ (l : List Sp), Tidy l → z ∈ l → ∀ t, mem l t → (t < z.1 → t + 1 < z.1) ∧ (z.2 < t → z.2 + 1 < t) := by
  intro l
  induction l with
  | nil => intro _ h; cases h
  | cons x l ih =>
    intro ht hz t hm
    have hxp := ht.1 x (by simp)
    rcases List.mem_cons.1 hz with rfl | hz
    · rcases (mem_cons _ _ _).1 hm with h | h
      · omega
      · have := tidy_tail ht h; omega
    · have h1 := (tidy_cons.1 ht).2.1 z hz
      have h2 := (tidy_cons.1 ht).2.2
      have h3 := h2.1 z hz
      rcases (mem_cons _ _ _).1 hm with h | h
      · omega
      · exact ih h2 hz t h
theorem add_ends {a b : List Sp} (h : addE a b = 0) {z : Sp} (hz : z ∈ addS a b) :
    (∃ p ∈ a, ∃ q ∈ b, p.1 + q.1 = z.1) ∧ (∃ p ∈ a, ∃ q ∈ b, p.2 + q.2 = z.2) := by
  obtain ⟨e, hx⟩ := add_zero' h
  have hp := errLL_pos e
  obtain ⟨ht, hm⟩ := addC_mem hp.1 hp.2
  rw [← hx] at ht hm
  have hzp := ht.1 z hz
  constructor
  · obtain ⟨s, ⟨p, hpa, p1, p2⟩, ⟨q, hqb, q1, q2⟩⟩ := (hm z.1).1 ⟨z, hz, Int.le_refl _, hzp⟩
    refine ⟨p, hpa, q, hqb, Classical.byContradiction fun hne => ?_⟩
    have h2 : mem (addS a b) (z.1 - 1) := by
      rw [hm]
      by_cases h3 : p.1 < s
      · exact ⟨s - 1, ⟨p, hpa, by omega, by omega⟩, ⟨q, hqb, by omega, by omega⟩⟩
      · exact ⟨s, ⟨p, hpa, by omega, by omega⟩, ⟨q, hqb, by omega, by omega⟩⟩
    have := (tidy_gap _ ht hz _ h2).1 (by omega)
    omega
  · obtain ⟨s, ⟨p, hpa, p1, p2⟩, ⟨q, hqb, q1, q2⟩⟩ := (hm z.2).1 ⟨z, hz, hzp, Int.le_refl _⟩
    refine ⟨p, hpa, q, hqb, Classical.byContradiction fun hne => ?_⟩
    have h2 : mem (addS a b) (z.2 + 1) := by
      rw [hm]
      by_cases h3 : s < p.2
      · exact ⟨s + 1, ⟨p, hpa, by omega, by omega⟩, ⟨q, hqb, by omega, by omega⟩⟩
      · exact ⟨s, ⟨p, hpa, by omega, by omega⟩, ⟨q, hqb, by omega, by omega⟩⟩
    have := (tidy_gap _ ht hz _ h2).2 (by omega)
    omega
/-- The list turned by k, and one element once more. -/
def turned (a : List Sp) (k : Nat) (x : Sp) : List Sp := a.drop k ++ a.take k ++ [x]
theorem turned_mem {a : List Sp} {k : Nat} {x : Sp} (hx : x ∈ a) (s : Sp) : s ∈ turned a k x ↔ s ∈ a := by
  unfold turned
  rw [List.mem_append, List.mem_append, List.mem_singleton]
  conv => rhs; rw [← List.take_append_drop k a, List.mem_append]
  constructor
  · rintro ((h | h) | rfl)
    · exact .inr h
    · exact .inl h
    · rw [← List.mem_append, List.take_append_drop]; exact hx
  · rintro (h | h)
    · exact .inl (.inr h)
    · exact .inl (.inl h)
theorem turned_len (a : List Sp) (k : Nat) (x : Sp) : (turned a k x).length = a.length + 1 := by
  unfold turned; simp; omega
theorem canon_mem {a c : List Sp} (ha : Pos a) (h : ∀ s, s ∈ c ↔ s ∈ a) : canon c = canon a := by
  have hc : Pos c := fun s hs => ha s ((h s).1 hs)
  refine canon_eq ha (canon_tidy c hc).1 fun t => ?_
  rw [(canon_tidy c hc).2]
  unfold mem
  constructor
  · rintro ⟨s, h1, h2⟩; exact ⟨s, (h s).1 h1, h2⟩
  · rintro ⟨s, h1, h2⟩; exact ⟨s, (h s).2 h1, h2⟩
theorem turned_add {a b : List Sp} {k : Nat} {x : Sp} (hx : x ∈ a) (ha : a.length ≤ 24) (h : addE a b = 0) :
    errLL (turned a k x) b = 0 ∧ addS (turned a k x) b = addS a b ∧ addE (turned a k x) b = 0 ∧ canon (turned a k x) = canon a := by
  obtain ⟨e, _⟩ := add_zero' h
  obtain ⟨e1, e2⟩ := errLL_zero e
  have hc := canon_mem (errL_pos e1) (turned_mem (k := k) hx)
  have e3 : errL (turned a k x) = 0 := by
    unfold errL
    rw [turned_len, if_neg (by omega), if_pos]
    rw [List.all_eq_true]
    intro s hs
    exact (errL_all e1).2 s ((turned_mem hx s).1 hs)
  have e4 : errLL (turned a k x) b = 0 := by unfold errLL; rw [if_pos e3, e2]
  refine ⟨e4, ?_, ?_, hc⟩
  · unfold addS; rw [if_pos e4, if_pos e, hc]
  · unfold addE at *; rw [if_pos e] at h; rw [if_pos e4, hc]; exact h

/-! ### SpanPoints -/
theorem errL_small {a : List Sp} (ha : a.length ≤ 24) : errL a = if a.all okSp then 0 else 10 := by unfold errL; rw [if_neg (by omega)]
theorem canon_small {a : List Sp} (h : errL a = 0) : (canon a).length ≤ a.length := canon_len a (errL_bd h)
/-- One of the three fails: what the results are. -/
theorem points_bad {a b : List Sp} (ha : a.length ≤ 24) (hb : b.length ≤ 24) (h : ¬ (errL a = 0 ∧ unionE a b = 0 ∧ meetE a b = 0)) :
    (errL a = 0 ∨ setS a = []) ∧ unionE a b = meetE a b ∧ unionS a b = [] ∧ meetS a b = [] := by
  have key : errLL a b ≠ 0 := by
    intro e
    apply h
    obtain ⟨e1, e2⟩ := errLL_zero e
    have l1 := canon_len (a ++ b) (fun x hx => (List.mem_append.1 hx).elim (errL_bd e1 x) (errL_bd e2 x))
    have l2 := (meetC_ok a b (errL_bd e1) (errL_bd e2)).2
    have l3 : a.length * b.length ≤ 24 * 24 := Nat.mul_le_mul ha hb
    rw [List.length_append] at l1
    refine ⟨e1, ?_, ?_⟩
    · unfold unionE limE; rw [if_pos e, if_neg (by omega)]
    · unfold meetE limE; rw [if_pos e, if_neg (by omega)]
  unfold unionE meetE unionS meetS setS
  rw [if_neg key, if_neg key, if_neg key, if_neg key]
  refine ⟨?_, rfl, rfl, rfl⟩
  by_cases e : errL a = 0
  · exact .inl e
  · exact .inr (if_neg e)
theorem points_ok {a b : List Sp} (h1 : errL a = 0) (h2 : unionE a b = 0) (h3 : meetE a b = 0) :
    (∀ t, inS (setS a) t = inS a t ∧ inS (unionS a b) t = (inS a t || inS b t) ∧ inS (meetS a b) t = (inS a t && inS b t)) ∧ Best (setS a) ∧ Best (unionS a b) ∧ Best (meetS a b) ∧ errL b = 0 := by
  obtain ⟨e, hu⟩ := union_zero h2
  obtain ⟨_, e2⟩ := errLL_zero e
  have hpa := errL_pos h1
  have hpb := errL_pos e2
  have hs : setS a = canon a := by unfold setS; rw [if_pos h1]
  have hm : meetS a b = meetC a b ∧ limE (meetC a b) = 0 := by
    unfold meetE at h3; rw [if_pos e] at h3
    unfold meetS; rw [if_pos e]; exact ⟨limE_zero h3, h3⟩
  have hul : limE (canon (a ++ b)) = 0 := by unfold unionE at h2; rw [if_pos e] at h2; exact h2
  have hpab : Pos (a ++ b) := fun s hs => (List.mem_append.1 hs).elim (hpa s) (hpb s)
  have oa := (errL_all h1).2
  have ob := (errL_all e2).2
  have tu := canon_tidy (a ++ b) hpab
  have tm := meetC_tidy a b
  have ts := canon_tidy a hpa
  refine ⟨fun t => ⟨?_, ?_, ?_⟩, ?_, ?_, ?_, e2⟩
  · rw [Bool.eq_iff_iff, mem_inS, mem_inS, hs]; exact ts.2 t
  · rw [Bool.eq_iff_iff, Bool.or_eq_true, mem_inS, mem_inS, mem_inS, hu, tu.2, mem_append]
  · rw [Bool.eq_iff_iff, Bool.and_eq_true, mem_inS, mem_inS, mem_inS, hm.1, tm.2]
  · rw [hs]; exact ⟨ts.1, canon_okSp a oa, Nat.le_trans (canon_small h1) (errL_all h1).1⟩
  · rw [hu]; exact ⟨tu.1, canon_okSp _ (fun s hs => (List.mem_append.1 hs).elim (oa s) (ob s)), limE_len hul⟩
  · rw [hm.1]
    refine ⟨tm.1, fun z hz => ?_, limE_len hm.2⟩
    have hzp := tm.1.1 z hz
    obtain ⟨⟨x, hx, x1, x2⟩, _⟩ := (tm.2 z.1).1 ⟨z, hz, Int.le_refl _, hzp⟩
    obtain ⟨⟨y, hy, y1, y2⟩, _⟩ := (tm.2 z.2).1 ⟨z, hz, hzp, Int.le_refl _⟩
    have := (okSp_iff x).1 (oa x hx)
    have := (okSp_iff y).1 (oa y hy)
    rw [okSp_iff]; omega
end Go.Proofs.Ytdennlekjndfkaa
