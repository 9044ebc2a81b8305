/- The program's way and the specification's way come to the same. -/
import Derived.Test.YtabdgnigmlpeaaaGreatDoorTMath
namespace Go.Proofs.YtabdgnigmlpeaaaGreatDoor

mutual
def szC : Cd → Nat | .mk _ _ _ ps => 1 + szCs ps
def szCs : List Cd → Nat
  | [] => 0
  | c :: l => szC c + szCs l
end
mutual
def dpC (d : Nat) : Cd → Bool | .mk _ _ _ ps => (ps.isEmpty || decide (d + 1 ≤ 16)) && dpCs (d + 1) ps
def dpCs (d : Nat) : List Cd → Bool
  | [] => true
  | c :: l => dpC d c && dpCs d l
end
theorem szC_pos (c : Cd) : 1 ≤ szC c := by cases c; rw [szC]; omega
theorem szCs_len : ∀ l : List Cd, l.length ≤ szCs l
  | [] => by simp
  | c :: l => by rw [szCs]; have := szCs_len l; have := szC_pos c; simp only [List.length_cons]; omega
mutual
theorem fitC_spec : ∀ (c : Cd) (d : Nat) (left : Int), 0 ≤ left →
    (dpC d c = true ∧ (szC c : Int) ≤ left + 1 → fitC d left c = (true, left + 1 - szC c)) ∧ (¬(dpC d c = true ∧ (szC c : Int) ≤ left + 1) → (fitC d left c).1 = false)
  | .mk k v n ps, d, left, h0 => by
    have hl := szCs_len ps
    rw [dpC, szC, fitC]
    by_cases h1 : left - ps.length < 0 ∨ ps ≠ [] ∧ 16 < d + 1
    · rw [if_pos h1]
      refine ⟨fun ⟨h2, h3⟩ => ?_, fun _ => rfl⟩
      rcases h1 with h1 | ⟨h1, h4⟩
      · omega
      · simp only [Bool.and_eq_true, Bool.or_eq_true, List.isEmpty_iff, decide_eq_true_eq] at h2
        rcases h2.1 with h5 | h5
        · exact absurd h5 h1
        · omega
    · rw [if_neg h1]
      have hb : (ps.isEmpty || decide (d + 1 ≤ 16)) = true := by
        by_cases h2 : ps = []
        · simp [h2]
        · have : d + 1 ≤ 16 := Nat.not_lt.1 fun h => h1 (.inr ⟨h2, h⟩)
          simp [this]
      rw [hb, Bool.true_and]
      obtain ⟨a, b⟩ := fitCs_spec ps (d + 1) (left - ps.length) (by omega)
      refine ⟨fun ⟨h2, h3⟩ => ?_, fun h2 => b fun ⟨h3, h4⟩ => h2 ⟨h3, by omega⟩⟩
      rw [a ⟨h2, by omega⟩]
      simp only [Prod.mk.injEq, true_and]
      omega
theorem fitCs_spec : ∀ (l : List Cd) (d : Nat) (left : Int), 0 ≤ left →
    (dpCs d l = true ∧ (szCs l : Int) ≤ left + l.length → fitCs d left l = (true, left + l.length - szCs l)) ∧ (¬(dpCs d l = true ∧ (szCs l : Int) ≤ left + l.length) → (fitCs d left l).1 = false)
  | [], d, left, h0 => by
    rw [dpCs, szCs, fitCs]
    exact ⟨fun _ => by simp, fun h => absurd ⟨rfl, by simpa using h0⟩ h⟩
  | c :: l, d, left, h0 => by
    have hl := szCs_len l
    have hp := szC_pos c
    rw [dpCs, szCs, fitCs]
    obtain ⟨a, b⟩ := fitC_spec c d left h0
    by_cases h1 : dpC d c = true ∧ (szC c : Int) ≤ left + 1
    · rw [a h1]
      simp only [if_true, h1.1, Bool.true_and, List.length_cons]
      obtain ⟨a2, b2⟩ := fitCs_spec l d (left + 1 - szC c) (by omega)
      refine ⟨fun ⟨h2, h3⟩ => ?_, fun h2 => b2 fun ⟨h3, h4⟩ => h2 ⟨h3, by omega⟩⟩
      rw [a2 ⟨h2, by omega⟩]
      simp only [Prod.mk.injEq, true_and]
      omega
    · rw [if_neg (by rw [b h1]; decide)]
      refine ⟨fun ⟨h2, h3⟩ => ?_, fun _ => rfl⟩
      simp only [Bool.and_eq_true] at h2
      simp only [List.length_cons] at h3
      exact absurd ⟨h2.1, by omega⟩ h1
end
mutual
theorem cntC_spec : ∀ (c : Cd) (d : Nat), (d ≤ 16 ∧ dpC d c = true ∧ szC c ≤ 256 → cntC d c = szC c) ∧ (¬(d ≤ 16 ∧ dpC d c = true ∧ szC c ≤ 256) → 256 < cntC d c)
  | .mk k v n ps, d => by
    rw [dpC, szC, cntC]
    by_cases h1 : 16 < d
    · rw [if_pos h1]
      exact ⟨fun h => by omega, fun _ => by omega⟩
    · rw [if_neg h1]
      obtain ⟨a, b⟩ := cntCs_spec ps (d + 1) 1
      refine ⟨fun ⟨h2, h3, h4⟩ => ?_, fun h2 => b (by omega) fun ⟨h3, h4, h5⟩ => h2 ⟨by omega, ?_, by omega⟩⟩
      · simp only [Bool.and_eq_true, Bool.or_eq_true, List.isEmpty_iff, decide_eq_true_eq] at h3
        rw [a ⟨h3.1, h3.2, by omega⟩]
      · simp only [Bool.and_eq_true, Bool.or_eq_true, List.isEmpty_iff, decide_eq_true_eq]
        exact ⟨h3, h4⟩
theorem cntCs_spec : ∀ (l : List Cd) (d n : Nat), ((l = [] ∨ d ≤ 16) ∧ dpCs d l = true ∧ n + szCs l ≤ 256 → cntCs d n l = n + szCs l) ∧ (n ≤ 256 → ¬((l = [] ∨ d ≤ 16) ∧ dpCs d l = true ∧ n + szCs l ≤ 256) → 256 < cntCs d n l)
  | [], d, n => by
    rw [dpCs, szCs, cntCs]
    exact ⟨fun _ => rfl, fun h0 h => absurd ⟨.inl rfl, rfl, h0⟩ h⟩
  | c :: l, d, n => by
    have hp := szC_pos c
    rw [dpCs, szCs, cntCs]
    obtain ⟨a, b⟩ := cntC_spec c d
    obtain ⟨a2, b2⟩ := cntCs_spec l d (n + cntC d c)
    constructor
    · rintro ⟨h1, h2, h3⟩
      simp only [Bool.and_eq_true] at h2
      have hd : d ≤ 16 := by rcases h1 with h1 | h1; · cases h1
                             · exact h1
      rw [if_pos (by omega)]
      have hc := a ⟨hd, h2.1, by omega⟩
      rw [hc] at a2 ⊢
      rw [a2 ⟨.inr hd, h2.2, by omega⟩]
      omega
    · intro h0 h1
      rw [if_pos h0]
      by_cases h2 : n + cntC d c ≤ 256
      · refine b2 h2 fun ⟨h3, h4, h5⟩ => h1 ?_
        by_cases h6 : d ≤ 16 ∧ dpC d c = true ∧ szC c ≤ 256
        · rw [a h6] at h5
          exact ⟨.inr h6.1, by rw [h6.2.1, h4]; rfl, by omega⟩
        · have := b h6
          omega
      · have : cntCs d (n + cntC d c) l = n + cntC d c := by
          cases l with
          | nil => rw [cntCs]
          | cons x l => rw [cntCs, if_neg h2]
        omega
end
theorem fitL_iff (l : List Cd) : (fitL 0 256 l).1 = true ↔ dpCs 0 l = true ∧ szCs l ≤ 256 := by
  have hl := szCs_len l
  unfold fitL
  by_cases h1 : (256 : Int) - l.length < 0 ∨ l ≠ [] ∧ 16 < 0
  · rw [if_pos h1]
    simp only [Bool.false_eq_true, false_iff]
    rintro ⟨_, h2⟩
    rcases h1 with h1 | h1
    · omega
    · omega
  · rw [if_neg h1]
    obtain ⟨a, b⟩ := fitCs_spec l 0 (256 - l.length) (by omega)
    by_cases h2 : dpCs 0 l = true ∧ (szCs l : Int) ≤ 256 - l.length + l.length
    · rw [a h2]
      exact ⟨fun _ => ⟨h2.1, by omega⟩, fun _ => rfl⟩
    · rw [b h2]
      simp only [Bool.false_eq_true, false_iff]
      exact fun h3 => h2 ⟨h3.1, by omega⟩
theorem cntC_iff (c : Cd) : cntC 0 c ≤ 256 ↔ dpC 0 c = true ∧ szC c ≤ 256 := by
  obtain ⟨a, b⟩ := cntC_spec c 0
  by_cases h : dpC 0 c = true ∧ szC c ≤ 256
  · rw [a ⟨by omega, h⟩]; exact ⟨fun _ => h, fun h => h.2⟩
  · have := b fun h2 => h h2.2
    exact ⟨fun h3 => by omega, fun h3 => absurd h3 h⟩
theorem fitL_one (c : Cd) : (fitL 0 256 [c]).1 = true ↔ cntC 0 c ≤ 256 := by
  rw [fitL_iff, cntC_iff, dpCs, dpCs, szCs, szCs, Bool.and_true, Nat.add_zero]

theorem formCs_len (l : List Cd) : (formCs l).length = l.length := by rw [formCs_eq, List.length_map]
mutual
theorem rng_form : ∀ c : Cd, rngF (formC c) = okC c
  | .mk k v n ps => by
    have hs := rngs_form ps
    have hl := formCs_len ps
    rw [formC, okC]
    by_cases h1 : k = 1
    · subst h1
      by_cases h2 : ps = []
      · subst h2; simp [rngF]
      · have : ps.isEmpty = false := by simpa using h2
        simp [h2, rngF]
    · by_cases h2 : k = 2
      · subst h2
        by_cases h3 : v = 0 ∧ n = 0
        · simp [h3, rngF, hs, hl]
        · have : decide (v = 0 ∧ n = 0) = false := by simpa using h3
          simp only [this, Bool.false_and, Bool.and_false]
          simp [h3, rngF]
      · by_cases h3 : k = 3
        · subst h3
          by_cases h4 : v = 0 ∧ n = 0
          · simp [h4, rngF, hs, hl]
          · have : decide (v = 0 ∧ n = 0) = false := by simpa using h4
            simp only [this, Bool.false_and, Bool.and_false]
            simp [h4, rngF]
        · by_cases h4 : k = 4
          · subst h4
            by_cases h5 : v = 0 ∧ n = 0
            · match ps, hs with
              | [], _ => simp [rngF]
              | [c], hs => 
                rw [formCs, formCs, okCs, okCs, rngFs, rngFs] at hs
                simp [h5, formCs, rngF, okCs] at hs ⊢
                exact hs
              | c :: d :: l, _ => simp [rngF]
            · have : decide (v = 0 ∧ n = 0) = false := by simpa using h5
              simp only [this, Bool.false_and, Bool.and_false]
              have h6 : ¬(v = 0 ∧ n = 0 ∧ ps.length = 1) := fun h => h5 ⟨h.1, h.2.1⟩
              simp [h6, rngF]
          · simp [h1, h2, h3, h4, rngF]
theorem rngs_form : ∀ l : List Cd, rngFs (formCs l) = okCs l
  | [] => by rw [formCs, rngFs, okCs]
  | c :: l => by rw [formCs, rngFs, okCs, rng_form c, rngs_form l]
end
theorem cond_same (c : Cd) : condE c = rCond c := by
  unfold condE rCond
  rw [rng_form]
  by_cases h : cntC 0 c ≤ 256
  · have e1 := (fitL_one c).2 h
    have e2 : ¬ 256 < cntC 0 c := by omega
    simp only [e1, e2, if_false, Bool.true_eq_false]
  · have e1 : (fitL 0 256 [c]).1 = false := by
      cases h2 : (fitL 0 256 [c]).1 with
      | false => rfl
      | true => exact absurd ((fitL_one c).1 h2) h
    have e2 : 256 < cntC 0 c := by omega
    simp only [e1, e2, if_true]
mutual
theorem hold_form (x : En) : ∀ c : Cd, okC c = true → holdF x (formC c) = rHold x c
  | .mk k v n ps, h => by
    rw [okC] at h
    rw [formC, rHold]
    by_cases h1 : k = 1
    · subst h1
      simp only [if_true, Bool.and_eq_true, List.isEmpty_iff] at h
      simp [h.2.2, holdF]
    · rw [if_neg h1] at h
      by_cases h2 : k = 2 ∨ k = 3
      · rw [if_pos h2] at h
        simp only [Bool.and_eq_true, decide_eq_true_eq] at h
        obtain ⟨ha, ho⟩ := holds_form x ps h.2.2
        rcases h2 with h2 | h2
        · subst h2
          simp [h.2.1, holdF, ha]
        · subst h2
          simp [h.2.1, holdF, ho]
      · rw [if_neg h2] at h
        by_cases h4 : k = 4
        · subst h4
          simp only [if_true, Bool.and_eq_true, decide_eq_true_eq] at h
          match ps, h with
          | [c], h =>
            have ha := (holds_form x [c] h.2.2).1
            rw [formCs, formCs, holdA, holdA, Bool.and_true] at ha
            simp [h.2.1, formCs, holdF, ha]
        · rw [if_neg h4] at h
          cases h
theorem holds_form (x : En) : ∀ l : List Cd, okCs l = true → holdA x (formCs l) = rHoldA x l ∧ holdO x (formCs l) = rHoldO x l
  | [], _ => ⟨by rw [formCs, holdA, rHoldA], by rw [formCs, holdO, rHoldO]⟩
  | c :: l, h => by
    rw [okCs, Bool.and_eq_true] at h
    have a := hold_form x c h.1
    obtain ⟨b, d⟩ := holds_form x l h.2
    rw [formCs, holdA, holdO, rHoldA, rHoldO, a, b, d]
    exact ⟨rfl, rfl⟩
end

/- Steps. -/
mutual
def szS : St → Nat | .mk _ _ _ th el => 1 + szSs th + szSs el
def szSs : List St → Nat
  | [] => 0
  | c :: l => szS c + szSs l
end
mutual
def dpS (d : Nat) : St → Bool | .mk _ _ _ th el => (((th.isEmpty || decide (d + 1 ≤ 16)) && dpSs (d + 1) th) && ((el.isEmpty || decide (d + 1 ≤ 16)) && dpSs (d + 1) el))
def dpSs (d : Nat) : List St → Bool
  | [] => true
  | c :: l => dpS d c && dpSs d l
end
/-- The sum of the conditions' counts. -/
def sumN (l : List Cd) : Nat := (l.map (cntC 0)).foldr (· + ·) 0
theorem sumN_append (a b : List Cd) : sumN (a ++ b) = sumN a + sumN b := by
  induction a with
  | nil => simp [sumN]
  | cons x a ih => simp only [sumN, List.cons_append, List.map_cons, List.foldr_cons] at ih ⊢; omega
theorem szS_pos (c : St) : 1 ≤ szS c := by cases c; rw [szS]; omega
theorem szSs_len : ∀ l : List St, l.length ≤ szSs l
  | [] => by simp
  | c :: l => by rw [szSs]; have := szSs_len l; have := szS_pos c; simp only [List.length_cons]; omega
theorem depth_b {α : Type} {l : List α} {d : Nat} (h : ¬(l ≠ [] ∧ 16 < d + 1)) : (l.isEmpty || decide (d + 1 ≤ 16)) = true := by
  by_cases h2 : l = []
  · simp [h2]
  · have : d + 1 ≤ 16 := Nat.not_lt.1 fun h3 => h ⟨h2, h3⟩
    simp [this]
theorem depth_no {α : Type} {l : List α} {d : Nat} (h : l ≠ [] ∧ 16 < d + 1) : (l.isEmpty || decide (d + 1 ≤ 16)) = false := by
  have h1 : l.isEmpty = false := by simpa using h.1
  have h2 : decide (d + 1 ≤ 16) = false := decide_eq_false (by omega)
  rw [h1, h2]; rfl
mutual
theorem fitS_spec : ∀ (c : St) (d : Nat) (left : Int), 0 ≤ left →
    (dpS d c = true ∧ (szS c : Int) ≤ left + 1 → fitS d left c = (true, left + 1 - szS c)) ∧ (¬(dpS d c = true ∧ (szS c : Int) ≤ left + 1) → (fitS d left c).1 = false)
  | .mk k b c th el, d, left, h0 => by
    have hl := szSs_len th
    have hl2 := szSs_len el
    rw [dpS, szS, fitS]
    by_cases h1 : left - th.length < 0 ∨ th ≠ [] ∧ 16 < d + 1
    · rw [if_pos h1]
      refine ⟨fun ⟨h2, h3⟩ => ?_, fun _ => rfl⟩
      rcases h1 with h1 | h1
      · omega
      · rw [depth_no h1] at h2
        simp at h2
    · rw [if_neg h1, depth_b (fun h => h1 (.inr h)), Bool.true_and]
      obtain ⟨a, b⟩ := fitSs_spec th (d + 1) (left - th.length) (by omega)
      by_cases h4 : dpSs (d + 1) th = true ∧ (szSs th : Int) ≤ left - th.length + th.length
      · rw [a h4]
        simp only [if_true, h4.1, Bool.true_and]
        by_cases h5 : left - th.length + th.length - szSs th - el.length < 0 ∨ el ≠ [] ∧ 16 < d + 1
        · rw [if_pos h5]
          refine ⟨fun ⟨h2, h3⟩ => ?_, fun _ => rfl⟩
          rcases h5 with h5 | h5
          · omega
          · rw [depth_no h5] at h2
            simp at h2
        · rw [if_neg h5, depth_b (fun h => h5 (.inr h)), Bool.true_and]
          obtain ⟨a2, b2⟩ := fitSs_spec el (d + 1) (left - th.length + th.length - szSs th - el.length) (by omega)
          refine ⟨fun ⟨h2, h3⟩ => ?_, fun h2 => b2 fun ⟨h3, h6⟩ => h2 ⟨h3, by omega⟩⟩
          rw [a2 ⟨h2, by omega⟩]
          simp only [Prod.mk.injEq, true_and]
          omega
      · rw [if_neg (by rw [b h4]; decide)]
        refine ⟨fun ⟨h2, h3⟩ => ?_, fun _ => rfl⟩
        simp only [Bool.and_eq_true] at h2
        exact absurd ⟨h2.1, by omega⟩ h4
theorem fitSs_spec : ∀ (l : List St) (d : Nat) (left : Int), 0 ≤ left →
    (dpSs d l = true ∧ (szSs l : Int) ≤ left + l.length → fitSs d left l = (true, left + l.length - szSs l)) ∧ (¬(dpSs d l = true ∧ (szSs l : Int) ≤ left + l.length) → (fitSs d left l).1 = false)
  | [], d, left, h0 => by
    rw [dpSs, szSs, fitSs]
    exact ⟨fun _ => by simp, fun h => absurd ⟨rfl, by simpa using h0⟩ h⟩
  | c :: l, d, left, h0 => by
    have hl := szSs_len l
    have hp := szS_pos c
    rw [dpSs, szSs, fitSs]
    obtain ⟨a, b⟩ := fitS_spec c d left h0
    by_cases h1 : dpS d c = true ∧ (szS c : Int) ≤ left + 1
    · rw [a h1]
      simp only [if_true, h1.1, Bool.true_and, List.length_cons]
      obtain ⟨a2, b2⟩ := fitSs_spec l d (left + 1 - szS c) (by omega)
      refine ⟨fun ⟨h2, h3⟩ => ?_, fun h2 => b2 fun ⟨h3, h4⟩ => h2 ⟨h3, by omega⟩⟩
      rw [a2 ⟨h2, by omega⟩]
      simp only [Prod.mk.injEq, true_and]
      omega
    · rw [if_neg (by rw [b h1]; decide)]
      refine ⟨fun ⟨h2, h3⟩ => ?_, fun _ => rfl⟩
      simp only [Bool.and_eq_true] at h2
      simp only [List.length_cons] at h3
      exact absurd ⟨h2.1, by omega⟩ h1
end
theorem fitT_iff (l : List St) : (fitT 0 64 l).1 = true ↔ dpSs 0 l = true ∧ szSs l ≤ 64 := by
  have hl := szSs_len l
  unfold fitT
  by_cases h1 : (64 : Int) - l.length < 0 ∨ l ≠ [] ∧ 16 < 0
  · rw [if_pos h1]
    simp only [Bool.false_eq_true, false_iff]
    rintro ⟨_, h2⟩
    rcases h1 with h1 | h1
    · omega
    · omega
  · rw [if_neg h1]
    obtain ⟨a, b⟩ := fitSs_spec l 0 (64 - l.length) (by omega)
    by_cases h2 : dpSs 0 l = true ∧ (szSs l : Int) ≤ 64 - l.length + l.length
    · rw [a h2]
      exact ⟨fun _ => ⟨h2.1, by omega⟩, fun _ => rfl⟩
    · rw [b h2]
      simp only [Bool.false_eq_true, false_iff]
      exact fun h3 => h2 ⟨h3.1, by omega⟩
theorem fits_sum : ∀ l : List Cd, (dpCs 0 l = true ∧ szCs l ≤ 256) ↔ sumN l ≤ 256
  | [] => by simp [dpCs, szCs, sumN]
  | c :: l => by
    have ih := fits_sum l
    obtain ⟨a, b⟩ := cntC_spec c 0
    rw [dpCs, szCs, show sumN (c :: l) = cntC 0 c + sumN l from rfl]
    have key : ∀ l : List Cd, dpCs 0 l = true ∧ szCs l ≤ 256 → sumN l = szCs l := by
      intro l
      induction l with
      | nil => intro _; simp [sumN, szCs]
      | cons c l ih2 =>
        intro h
        rw [dpCs, szCs, Bool.and_eq_true] at h
        rw [szCs, show sumN (c :: l) = cntC 0 c + sumN l from rfl, ih2 ⟨h.1.2, by omega⟩, (cntC_spec c 0).1 ⟨by omega, h.1.1, by omega⟩]
    constructor
    · rintro ⟨h1, h2⟩
      rw [Bool.and_eq_true] at h1
      rw [a ⟨by omega, h1.1, by omega⟩, key l ⟨h1.2, by omega⟩]
      exact h2
    · intro h
      have h3 := ih.2 (by omega)
      have h4 := key l h3
      by_cases h5 : dpC 0 c = true ∧ szC c ≤ 256
      · rw [a ⟨by omega, h5⟩] at h
        exact ⟨by rw [h5.1, h3.1]; rfl, by omega⟩
      · have := b fun h6 => h5 h6.2
        omega
mutual
theorem sizS_spec : ∀ (s : St) (d : Nat), (dpS d s = true ∧ szS s ≤ 64 ∧ sumN (condsOf s) ≤ 256 → sizS d s = (szS s, sumN (condsOf s))) ∧ (¬(dpS d s = true ∧ szS s ≤ 64 ∧ sumN (condsOf s) ≤ 256) → 64 < (sizS d s).1 ∨ 256 < (sizS d s).2)
  | .mk k b c th el, d => by
    rw [dpS, szS, sizS, condsOf, sumN_append, sumN_append]
    have hn : sumN (if noB c = true then [] else [c]) = if noB c = true then 0 else cntC 0 c := by
      split
      · rfl
      · simp [sumN]
    rw [hn]
    generalize (if noB c = true then 0 else cntC 0 c) = m
    obtain ⟨a1, b1⟩ := sizSs_spec th (d + 1) 0 0
    obtain ⟨a2, b2⟩ := sizSs_spec el (d + 1) 0 0
    simp only
    by_cases h1 : th ≠ [] ∧ 16 < d + 1
    · simp only [if_pos h1, depth_no h1]
      refine ⟨fun h => by simp at h, fun _ => .inl ?_⟩
      omega
    · simp only [if_neg h1, depth_b h1, Bool.true_and]
      by_cases h2 : el ≠ [] ∧ 16 < d + 1
      · simp only [if_pos h2, depth_no h2]
        refine ⟨fun h => by simp at h, fun _ => .inl ?_⟩
        omega
      · simp only [if_neg h2, depth_b h2, Bool.true_and]
        by_cases h3 : dpSs (d + 1) th = true ∧ 0 + szSs th ≤ 64 ∧ 0 + sumN (condsOfs th) ≤ 256
        · rw [a1 h3]
          by_cases h4 : dpSs (d + 1) el = true ∧ 0 + szSs el ≤ 64 ∧ 0 + sumN (condsOfs el) ≤ 256
          · rw [a2 h4]
            simp only [h3.1, h4.1, Bool.and_self, true_and]
            refine ⟨fun _ => ?_, fun h => ?_⟩
            · simp only [Prod.mk.injEq]
              omega
            · omega
          · have hb := b2 (by omega) (by omega) h4
            refine ⟨fun h => ?_, fun _ => ?_⟩
            · rw [Bool.and_eq_true] at h
              exact absurd ⟨h.1.2, by omega, by omega⟩ h4
            · simp only
              omega
        · have hb := b1 (by omega) (by omega) h3
          refine ⟨fun h => ?_, fun _ => ?_⟩
          · rw [Bool.and_eq_true] at h
            exact absurd ⟨h.1.1, by omega, by omega⟩ h3
          · omega
theorem sizSs_spec : ∀ (l : List St) (d n m : Nat), (dpSs d l = true ∧ n + szSs l ≤ 64 ∧ m + sumN (condsOfs l) ≤ 256 → sizSs d n m l = (n + szSs l, m + sumN (condsOfs l))) ∧
    (n ≤ 64 → m ≤ 256 → ¬(dpSs d l = true ∧ n + szSs l ≤ 64 ∧ m + sumN (condsOfs l) ≤ 256) → 64 < (sizSs d n m l).1 ∨ 256 < (sizSs d n m l).2)
  | [], d, n, m => by
    rw [dpSs, szSs, sizSs, condsOfs]
    refine ⟨fun _ => by simp [sumN], fun h1 h2 h => absurd ⟨rfl, by omega, ?_⟩ h⟩
    simpa [sumN] using h2
  | s :: l, d, n, m => by
    rw [dpSs, szSs, sizSs, condsOfs, sumN_append]
    obtain ⟨a, b⟩ := sizS_spec s d
    obtain ⟨a2, b2⟩ := sizSs_spec l d (n + (sizS d s).1) (m + (sizS d s).2)
    constructor
    · rintro ⟨h1, h2, h3⟩
      rw [Bool.and_eq_true] at h1
      rw [if_pos (by omega)]
      have hc := a ⟨h1.1, by omega, by omega⟩
      rw [hc] at a2 ⊢
      rw [a2 ⟨h1.2, by simp only; omega, by simp only; omega⟩]
      simp only [Prod.mk.injEq]
      omega
    · intro h0 h1 h2
      rw [if_pos ⟨h0, h1⟩]
      by_cases h3 : n + (sizS d s).1 ≤ 64 ∧ m + (sizS d s).2 ≤ 256
      · refine b2 h3.1 h3.2 fun ⟨h4, h5, h6⟩ => h2 ?_
        by_cases h7 : dpS d s = true ∧ szS s ≤ 64 ∧ sumN (condsOf s) ≤ 256
        · rw [a h7] at h5 h6
          simp only at h5 h6
          exact ⟨by rw [h7.1, h4]; rfl, by omega, by omega⟩
        · have := b h7
          omega
      · have : sizSs d (n + (sizS d s).1) (m + (sizS d s).2) l = (n + (sizS d s).1, m + (sizS d s).2) := by
          cases l with
          | nil => rw [sizSs]
          | cons x l => rw [sizSs, if_neg h3]
        rw [this]
        simp only
        omega
end
theorem ties_few (l : List St) : ((fitT 0 64 l).1 = false ∨ (fitL 0 256 (condsOfs l)).1 = false) ↔ (64 < (sizL 0 l).1 ∨ 256 < (sizL 0 l).2) := by
  have hz : sizL 0 l = sizSs 0 0 0 l := by unfold sizL; rw [if_neg (by omega)]
  rw [hz]
  have e1 : (fitT 0 64 l).1 = false ↔ ¬(dpSs 0 l = true ∧ szSs l ≤ 64) := by rw [← fitT_iff]; simp
  have e2 : (fitL 0 256 (condsOfs l)).1 = false ↔ ¬ sumN (condsOfs l) ≤ 256 := by rw [← fits_sum, ← fitL_iff]; simp
  rw [e1, e2]
  obtain ⟨a, b⟩ := sizSs_spec l 0 0 0
  by_cases h : dpSs 0 l = true ∧ 0 + szSs l ≤ 64 ∧ 0 + sumN (condsOfs l) ≤ 256
  · rw [a h]
    simp only
    constructor
    · rintro (h1 | h1)
      · exact absurd ⟨h.1, by omega⟩ h1
      · omega
    · omega
  · refine ⟨fun _ => b (by omega) (by omega) h, fun _ => ?_⟩
    by_cases h1 : dpSs 0 l = true ∧ szSs l ≤ 64
    · exact .inr fun h2 => h ⟨h1.1, by omega, by omega⟩
    · exact .inl h1
theorem noB_rCond (c : Cd) (h : noB c = true) : okC c = false := by
  obtain ⟨k, v, n, ps⟩ := c
  unfold noB at h
  simp only [Bool.and_eq_true, beq_iff_eq] at h
  have : k = 0 := h.1
  subst this
  rw [okC]; simp
mutual
theorem rng_formS : ∀ s : St, (∀ c ∈ condsOf s, cntC 0 c ≤ 256) → rngF (formS s) = okS s
  | .mk k b c th el, hc => by
    rw [condsOf] at hc
    have h1 := rng_formSs th fun c h => hc c (by simp [h])
    have h2 := rng_formSs el fun c h => hc c (by simp [h])
    rw [formS, okS]
    by_cases hk : k = 1
    · subst hk
      by_cases h3 : noB c = true ∧ th = [] ∧ el = []
      · obtain ⟨h3, rfl, rfl⟩ := h3
        simp [h3, rngF]
      · have : (noB c && (th.isEmpty && el.isEmpty)) = false := by
          cases h4 : (noB c && (th.isEmpty && el.isEmpty)) with
          | false => rfl
          | true =>
            simp only [Bool.and_eq_true, List.isEmpty_iff] at h4
            exact absurd h4 h3
        simp [this, h3, rngF]
    · by_cases h3 : k = 2
      · subst h3
        by_cases h4 : b = 0
        · subst h4
          have h5 : decide (rCond c = 0) = rngF (formC c) := by
            rw [rng_form]
            cases h6 : noB c with
            | true =>
              rw [noB_rCond c h6]
              unfold rCond
              rw [noB_rCond c h6]
              split <;> simp
            | false =>
              have := hc c (by simp [h6])
              unfold rCond
              rw [if_neg (by omega)]
              cases okC c <;> simp
          have h6 : (formSs th).isEmpty = th.isEmpty := by cases th <;> simp [formSs]
          simp only [hk, if_false, false_and, and_self, if_true, rngF, h5, h6, h1, h2, decide_true, Bool.true_and, Bool.and_assoc]
        · simp [h4, rngF]
      · simp [hk, h3, rngF]
theorem rng_formSs : ∀ l : List St, (∀ c ∈ condsOfs l, cntC 0 c ≤ 256) → rngFs (formSs l) = okSs l
  | [], _ => by rw [formSs, rngFs, okSs]
  | s :: l, hc => by
    rw [condsOfs] at hc
    rw [formSs, rngFs, okSs, rng_formS s fun c h => hc c (by simp [h]), rng_formSs l fun c h => hc c (by simp [h])]
end
theorem sumN_le : ∀ (l : List Cd) (c : Cd), c ∈ l → cntC 0 c ≤ sumN l
  | x :: l, c, h => by
    rw [show sumN (x :: l) = cntC 0 x + sumN l from rfl]
    rcases List.mem_cons.1 h with rfl | h
    · omega
    · have := sumN_le l c h
      omega
theorem ties_conds (l : List St) (h : ¬((fitT 0 64 l).1 = false ∨ (fitL 0 256 (condsOfs l)).1 = false)) : ∀ c ∈ condsOfs l, cntC 0 c ≤ 256 := by
  intro c hc
  have h2 : (fitL 0 256 (condsOfs l)).1 = true := by
    cases h3 : (fitL 0 256 (condsOfs l)).1 with
    | true => rfl
    | false => exact absurd (.inr h3) h
  have := (fits_sum _).1 ((fitL_iff _).1 h2)
  have := sumN_le _ c hc
  omega
theorem ties_same (l : List St) : tiesE l = rTies l := by
  unfold tiesE rTies
  by_cases h : (fitT 0 64 l).1 = false ∨ (fitL 0 256 (condsOfs l)).1 = false
  · rw [if_pos h, if_pos ((ties_few l).1 h)]
  · have h2 : stepsOk (l.map formS) = (!l.isEmpty && okSs l) := by
      unfold stepsOk
      rw [← rng_formSs l (ties_conds l h), formSs_eq, rngFs_eq]
      cases l <;> rfl
    rw [if_neg h, if_neg fun h3 => h ((ties_few l).2 h3), h2]
mutual
theorem app_form (x : En) : ∀ (s : St) (by' : List Int), okS s = true → appF x by' (formS s) = rApp x by' s
  | .mk k b c th el, by', h => by
    rw [okS] at h
    rw [formS, rApp]
    by_cases hk : k = 1
    · subst hk
      simp only [if_true, Bool.and_eq_true, List.isEmpty_iff] at h
      obtain ⟨_, h1, rfl, rfl⟩ := h
      simp [h1, appF]
    · rw [if_neg hk] at h
      by_cases h2 : k = 2
      · subst h2
        simp only [if_true, Bool.and_eq_true, decide_eq_true_eq] at h
        obtain ⟨h3, h4, _, h5, h6⟩ := h
        subst h3
        have ho : okC c = true := by
          unfold rCond at h4
          split at h4
          · omega
          · cases h7 : okC c with
            | true => rfl
            | false => rw [h7] at h4; simp at h4
        simp only [hk, if_false, false_and, and_self, if_true, appF, hold_form x c ho, app_forms x th by' h5, app_forms x el by' h6]
      · rw [if_neg h2] at h
        cases h
theorem app_forms (x : En) : ∀ (l : List St) (by' : List Int), okSs l = true → appFs x by' (formSs l) = rApps x by' l
  | [], by', _ => by rw [formSs, appFs, rApps]
  | s :: l, by', h => by
    rw [okSs, Bool.and_eq_true] at h
    rw [formSs, appFs, rApps, app_form x s by' h.1, app_forms x l _ h.2]
end
/- What is left, while it goes on. -/
theorem fitC_good (d : Nat) (s : Int) (c : Cd) (h0 : 0 ≤ s) (h1 : s ≤ 256) (h : (fitC d s c).1 = true) : 0 ≤ (fitC d s c).2 ∧ (fitC d s c).2 ≤ 256 := by
  obtain ⟨a, b⟩ := fitC_spec c d s h0
  have hp := szC_pos c
  by_cases h2 : dpC d c = true ∧ (szC c : Int) ≤ s + 1
  · rw [a h2]; simp only; omega
  · rw [b h2] at h; cases h
theorem fitS_good (d : Nat) (s : Int) (c : St) (h0 : 0 ≤ s) (h1 : s ≤ 256) (h : (fitS d s c).1 = true) : 0 ≤ (fitS d s c).2 ∧ (fitS d s c).2 ≤ 256 := by
  obtain ⟨a, b⟩ := fitS_spec c d s h0
  have hp := szS_pos c
  by_cases h2 : dpS d c = true ∧ (szS c : Int) ≤ s + 1
  · rw [a h2]; simp only; omega
  · rw [b h2] at h; cases h
theorem fitT_good (d : Nat) (s : Int) (l : List St) (h0 : 0 ≤ s) (h1 : s ≤ 256) (h : (fitT d s l).1 = true) : 0 ≤ (fitT d s l).2 ∧ (fitT d s l).2 ≤ 256 := by
  unfold fitT at h ⊢
  by_cases h2 : s - l.length < 0 ∨ l ≠ [] ∧ 16 < d
  · rw [if_pos h2] at h; cases h
  · rw [if_neg h2] at h ⊢
    obtain ⟨a, b⟩ := fitSs_spec l d (s - l.length) (by omega)
    have hl := szSs_len l
    by_cases h3 : dpSs d l = true ∧ (szSs l : Int) ≤ s - l.length + l.length
    · rw [a h3]; simp only; omega
    · rw [b h3] at h; cases h
end Go.Proofs.YtabdgnigmlpeaaaGreatDoor
