/- The text of valid tokens is split into these. -/
import Derived.Test.YtlcmedimgoaneaaGreatDoorKSwap2
namespace Go.Proofs.YtlcmedimgoaneaaGreatDoor

/-- A byte at which nothing is skipped. -/
def firm (c : UInt8) : Bool := !(isS c) && c != 35
theorem skp_firm {c : UInt8} (r : Bs) (h : firm c = true) : skp false (c :: r) = c :: r := by
  unfold firm at h
  simp only [Bool.and_eq_true, Bool.not_eq_true', bne_iff_ne, ne_eq] at h
  obtain ⟨h1, h2⟩ := h
  have h3 : c ≠ 10 := by rintro rfl; exact absurd h1 (by decide)
  rw [skp, if_neg h3, if_neg (by simp [h1]), if_neg h2]
theorem firm_L {c : UInt8} (h : isL c = true) : firm c = true := by
  exact all_bytes (p := fun c => isL c = true → firm c = true) (by decide +kernel) c h
theorem firm_D {c : UInt8} (h : isD c = true) : firm c = true := by
  exact all_bytes (p := fun c => isD c = true → firm c = true) (by decide +kernel) c h
theorem tok_numy {t : Bs} (h : numy t) : tok t = (if int t = true then 2 else if (timeV t).isSome = true then 3 else 0, t, t.length) ∧ ∃ c r, t = c :: r ∧ firm c = true := by
  obtain ⟨c, r, rfl, hg, hL, hc⟩ := h
  have hl := good_len r hg
  have htake : (c :: r).take (numLen r + 1) = c :: r := by rw [hl]; exact List.take_of_length_le (by simp)
  refine ⟨?_, c, r, rfl, ?_⟩
  · rw [tok_cons, if_neg (by simp [hL]), if_pos hc, htake, hl]; rfl
  · rcases hc with hc | ⟨rfl, _⟩
    · exact firm_D hc
    · decide
theorem chr_seqB {c : UInt8} (h : seqB c ≠ []) (r : Bs) : chr (seqB c ++ r) = (c, (seqB c).length) := by
  unfold seqB at h ⊢
  by_cases h1 : c = 34
  · subst h1; rfl
  rw [if_neg h1] at h ⊢
  by_cases h2 : c = 92
  · subst h2; rfl
  rw [if_neg h2] at h ⊢
  by_cases h3 : c = 10
  · subst h3; rfl
  rw [if_neg h3] at h ⊢
  by_cases h4 : plain c = true
  · rw [if_pos h4]
    rw [List.singleton_append, chr_plain r h2, if_pos h4]; rfl
  · rw [if_neg h4] at h; exact absurd rfl h
theorem body_flat : ∀ (t : Bs), okQ t = true → ∀ r, body (t.flatMap seqB ++ 34 :: r) = (t, 34 :: r)
  | [], _, r => by
    rw [List.flatMap_nil, List.nil_append, body_stop]
    rw [chr_plain r (by decide)]; rfl
  | c :: t, h, r => by
    unfold okQ at h
    simp only [List.all_cons, Bool.and_eq_true, bne_iff_ne, ne_eq] at h
    have hc := chr_seqB h.1 (t.flatMap seqB ++ 34 :: r)
    have hne : (seqB c).length ≠ 0 := by
      intro h0
      exact h.1 (List.eq_nil_of_length_eq_zero h0)
    rw [List.flatMap_cons, List.append_assoc, body_go (by rw [hc]; exact hne), hc]
    simp only
    rw [List.drop_left, body_flat t (by unfold okQ; exact h.2) r]
theorem tok_quot {t : Bs} (h : okQ t = true) : tok (quotB t) = (4, t, (quotB t).length) := by
  have hb := body_flat t h []
  have hq : qt (quotB t) = some (t, (quotB t).length) := by
    unfold qt quotB
    rw [List.tail_cons, hb]
    simp
  unfold quotB at hq ⊢
  rw [tok_cons, if_neg (by decide), if_neg (by simp; decide), if_pos rfl, hq]
theorem sgn_mem (r : Bs) : sgn r = [] ∨ sgn r ∈ signs := by
  unfold sgn
  cases h : signs.find? (fun s => s.isPrefixOf r) with
  | none => exact Or.inl rfl
  | some s => exact Or.inr (List.mem_of_find?_eq_some h)
theorem sign_all : ∀ t ∈ signs, signB t = true ∧ tok t = (5, t, t.length) ∧ firm (t.headD 0) = true ∧ t ≠ [] := by
  decide +kernel
theorem signB_mem {t : Bs} (h : signB t = true) : t ∈ signs := by
  unfold signB at h
  simp only [Bool.and_eq_true, bne_iff_ne, ne_eq, beq_iff_eq] at h
  rcases sgn_mem t with h1 | h1
  · rw [h1] at h; exact absurd h.2.symm h.1
  · rw [h.2] at h1; exact h1
/-- The text of a valid token is that token. -/
theorem tok_valid (x : Tok) (h : okT x.k x.t = true) : tok (txB x) = (x.k, x.t, (txB x).length) ∧ (∃ c r, txB x = c :: r ∧ firm c = true) ∧ x.k ≠ 0 := by
  obtain ⟨k, t, a⟩ := x
  simp only at h
  unfold okT at h
  unfold txB txT
  simp only
  by_cases h1 : k = 1
  · subst h1
    rw [if_pos rfl] at h
    rw [if_neg (by decide), if_pos (by simp), S_data]
    unfold word at h
    simp only [Bool.and_eq_true, beq_iff_eq] at h
    cases t with
    | nil => exact absurd h.1 (by decide)
    | cons c r =>
      have hL : isL c = true := h.1
      have hl : wdLen r + 1 = (c :: r).length := h.2
      refine ⟨?_, ⟨c, r, rfl, firm_L hL⟩, by decide⟩
      rw [tok_cons, if_pos hL, hl, List.take_of_length_le (Nat.le_refl _)]
  rw [if_neg h1] at h
  by_cases h2 : k = 2
  · subst h2
    rw [if_pos rfl] at h
    rw [if_neg (by decide), if_pos (by simp), S_data]
    obtain ⟨e, hf⟩ := tok_numy (int_numy h)
    rw [if_pos h] at e
    exact ⟨e, hf, by decide⟩
  rw [if_neg h2] at h
  by_cases h3 : k = 3
  · subst h3
    rw [if_pos rfl] at h
    rw [if_neg (by decide), if_pos (by simp), S_data]
    obtain ⟨hn, hi⟩ := time_numy h
    obtain ⟨e, hf⟩ := tok_numy hn
    rw [if_neg (by simp [hi]), if_pos h] at e
    exact ⟨e, hf, by decide⟩
  rw [if_neg h3] at h
  by_cases h4 : k = 4
  · subst h4
    rw [if_pos rfl] at h
    rw [if_pos rfl]
    unfold quotR
    rw [if_pos h, S_data]
    exact ⟨tok_quot h, ⟨34, _, rfl, by decide⟩, by decide⟩
  rw [if_neg h4] at h
  by_cases h5 : k = 5
  · subst h5
    rw [if_pos rfl] at h
    rw [if_neg (by decide), if_pos (by simp), S_data]
    obtain ⟨_, e, hf, hne⟩ := sign_all t (signB_mem h)
    obtain ⟨c, r, rfl⟩ := List.exists_cons_of_ne_nil hne
    exact ⟨e, ⟨c, r, rfl, hf⟩, by decide⟩
  rw [if_neg h5] at h
  cases h

/-- What a list of tokens says, but for the offsets. -/
def kt (x : Tk) : Int × Bs := (x.k, x.t)
def ktT (x : Tok) : Int × Bs := (x.k, x.t)
theorem jt_cons (x y : Tok) (r : List Tok) : jt (x :: y :: r) = txB x ++ 32 :: jt (y :: r) := rfl
theorem tok_sp (x : Tok) (h : okT x.k x.t = true) (r : Bs) : tok (txB x ++ 32 :: r) = (x.k, x.t, (txB x).length) := by
  obtain ⟨h1, ⟨c, q, h2, h3⟩, h4⟩ := tok_valid x h
  rw [← h1]
  have := tok_swap c q [] (32 :: r) (Or.inl rfl) (by rw [List.append_nil, ← h2, h1]; exact Nat.le_refl _) (by
    intro hc hq
    exfalso
    rw [List.append_nil, ← h2] at hq
    have h1' := h1
    rw [h2] at h1' hq
    subst hc
    rw [tok_cons, if_neg (by decide), if_neg (by simp; decide), if_pos rfl, hq] at h1'
    simp only [Prod.mk.injEq] at h1'
    exact h4 h1'.1.symm)
  rw [List.append_nil, ← h2] at this
  exact this
theorem lex_join : ∀ (l : List Tok), okI l = true → ∀ (f p : Nat) (e : Int) (m : Nat), (jt l).length < f →
    (lex f (jt l) p e m).2 = [] ∧ (lex f (jt l) p e m).1.map kt = l.map ktT ++ [(6, [])]
  | [], _, f, p, e, m, hf => by
    obtain ⟨f, rfl⟩ : ∃ g, f = g + 1 := ⟨f - 1, by omega⟩
    rw [lex_S]
    simp [jt, skp, lexS, kt]
  | [x], h, f, p, e, m, hf => by
    obtain ⟨f, rfl⟩ : ∃ g, f = g + 1 := ⟨f - 1, by omega⟩
    have hx : okT x.k x.t = true := by simpa [okI] using h
    obtain ⟨h1, ⟨c, q, h2, h3⟩, h4⟩ := tok_valid x hx
    simp only [jt] at hf ⊢
    rw [lex_S]
    have hs : skp false (txB x) = txB x := by rw [h2]; exact skp_firm q h3
    rw [hs]
    simp only [lexS]
    rw [if_neg (by rw [h2]; simp), h1]
    simp only
    rw [if_neg h4, List.drop_length]
    obtain ⟨f, rfl⟩ : ∃ g, f = g + 1 := ⟨f - 1, by rw [h2] at hf; simp at hf; omega⟩
    rw [lex_S]
    simp [skp, lexS, kt, ktT]
  | x :: y :: r, h, f, p, e, m, hf => by
    obtain ⟨f, rfl⟩ : ∃ g, f = g + 1 := ⟨f - 1, by omega⟩
    have hx : okT x.k x.t = true ∧ okI (y :: r) = true := by simpa [okI] using h
    have h1 := tok_sp x hx.1 (jt (y :: r))
    obtain ⟨_, ⟨c, q, h2, h3⟩, h4⟩ := tok_valid x hx.1
    have hlen : 1 ≤ (txB x).length := by rw [h2]; simp
    rw [jt_cons] at hf ⊢
    rw [List.length_append, List.length_cons] at hf
    rw [lex_S]
    have hs : skp false (txB x ++ 32 :: jt (y :: r)) = txB x ++ 32 :: jt (y :: r) := by rw [h2]; exact skp_firm _ h3
    rw [hs]
    simp only [lexS]
    rw [if_neg (by rw [h2]; simp), h1]
    simp only
    rw [if_neg h4, List.drop_left]
    obtain ⟨f, rfl⟩ : ∃ g, f = g + 1 := ⟨f - 1, by omega⟩
    have hk : ∀ p e m, lex (f + 1) (32 :: jt (y :: r)) p e m = lex (f + 1) (jt (y :: r)) (p + 1) e m := by
      intro p e m
      rw [lex_S, lex_S]
      have : skp false (32 :: jt (y :: r)) = skp false (jt (y :: r)) := by
        rw [skp, if_neg (by decide), if_pos (Or.inr (by decide))]
      rw [this]
      congr 1
      have := skp_len false (jt (y :: r))
      rw [List.length_cons]
      omega
    rw [hk]
    obtain ⟨i1, i2⟩ := lex_join (y :: r) hx.2 (f + 1) (p + (txB x ++ 32 :: jt (y :: r)).length.sub (txB x ++ 32 :: jt (y :: r)).length + (txB x).length + 1) e m (by omega)
    exact ⟨i1, by rw [List.map_cons]; exact congrArg (List.cons _) i2⟩
theorem tokens_join (l : List Tok) (h : okI l = true) : (tokens (jt l)).2 = [] ∧ (tokens (jt l)).1.map kt = l.map ktT ++ [(6, [])] :=
  lex_join l h _ _ _ _ (Nat.lt_succ_self _)
end Go.Proofs.YtlcmedimgoaneaaGreatDoor
