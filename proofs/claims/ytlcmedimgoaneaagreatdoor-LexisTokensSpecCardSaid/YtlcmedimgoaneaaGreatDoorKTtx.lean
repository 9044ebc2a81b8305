/- The text of a time denotes it, and is one token. -/
import Derived.Test.YtlcmedimgoaneaaGreatDoorKRefT
import Derived.Test.YtlcmedimgoaneaaGreatDoorKTok
namespace Go.Proofs.YtlcmedimgoaneaaGreatDoor

theorem dig_toNat (r : Nat) (h : r < 10) : (UInt8.ofNat (48 + r)).toNat = 48 + r := by simp; omega
theorem dig_isD (r : Nat) (h : r < 10) : isD (UInt8.ofNat (48 + r)) = true := by
  unfold isD; rw [dig_toNat r h]; simp; omega
theorem dec_isD : ∀ (k n : Nat), n < 10 ^ (k + 1) → (Lib.decDigits n).all isD = true ∧ val (Lib.decDigits n) = n ∧ (n ≠ 0 → (Lib.decDigits n).head? ≠ some 48)
  | 0, n, h => by
    have h : n < 10 := by simpa using h
    rw [Lib.decDigits_one h]
    have e := dig_toNat n h
    refine ⟨by rw [List.all_cons, List.all_nil, dig_isD n h]; rfl, ?_, fun h0 hh => ?_⟩
    · show val ([] ++ [UInt8.ofNat (48 + n)]) = n
      rw [val_snoc, e]; show 10 * 0 + _ = _; omega
    · have hh2 : UInt8.ofNat (48 + n) = 48 := by simpa using hh
      rw [hh2] at e
      have : (48 : UInt8).toNat = 48 := rfl
      omega
  | k + 1, n, h => by
    by_cases h1 : n < 10
    · exact dec_isD k n (Nat.lt_of_lt_of_le h1 (by rw [Nat.pow_succ]; have : 0 < 10 ^ k := Nat.pow_pos (by decide); omega))
    · have e : Lib.decDigits n = Lib.decDigits (n / 10) ++ [UInt8.ofNat (48 + n % 10)] := by rw [Lib.decDigits, dif_neg h1]
      obtain ⟨a, b, c⟩ := dec_isD k (n / 10) (by rw [Nat.pow_succ] at h; omega)
      have hl := dec_len k (n / 10) (by rw [Nat.pow_succ] at h; omega)
      rw [e]
      refine ⟨by rw [List.all_append, a, List.all_cons, List.all_nil, dig_isD (n % 10) (by omega)]; rfl, by rw [val_snoc, b, dig_toNat _ (by omega)]; omega, fun _ => ?_⟩
      have c := c (by omega)
      cases hd : Lib.decDigits (n / 10) with
      | nil => rw [hd] at hl; simp at hl
      | cons x y => rw [hd] at c; simpa using c
theorem dec_num (n : Nat) (h : n < 10 ^ 18) : num (Lib.decDigits n) = true := by
  obtain ⟨a, b, c⟩ := dec_isD 17 n h
  have hl := dec_len 17 n h
  unfold num
  by_cases h0 : n = 0
  · subst h0; rw [Lib.decDigits_one (by omega)]; decide
  · have := c h0
    simp [a, this]; omega
theorem pad_isD (f k : Nat) (h : f < 10 ^ (k + 1)) : (pad f (k + 1)).all isD = true := by
  unfold pad
  rw [List.all_append, (dec_isD k f h).1, Bool.and_true, List.all_eq_true]
  intro x hx
  rw [(List.mem_replicate.1 hx).2]; decide
theorem ne_of_isD {l : Bs} (h : l.all isD = true) {c : UInt8} (hc : isD c = false) : ∀ x ∈ l, x ≠ c := by
  intro x hx e
  have := List.all_eq_true.1 h x hx
  rw [e, hc] at this; cases this
theorem six_pad (s : Nat) (h : s < 60) : six (pad s 2) = some s := by
  have hl := pad_len s 1 (by omega)
  have hd := pad_isD s 1 (by omega)
  have hv := val_pad 1 s (by omega)
  unfold six
  rw [if_pos, hv]
  refine ⟨hl, hd, ?_⟩
  match hp : pad s 2, hl with
  | [x, y], _ =>
    rw [hp] at hv hd
    simp only [List.all_cons, List.all_nil, Bool.and_true, Bool.and_eq_true] at hd
    have hx := isD_bounds hd.1
    have hy := isD_bounds hd.2
    simp only [val, List.foldl_cons, List.foldl_nil] at hv
    simp only [List.headD_cons]
    omega
theorem trimZ_split (d : Bs) : ∃ k, d = trimZ d ++ List.replicate k 48 := by
  induction h : d.length generalizing d with
  | zero =>
    have : d = [] := List.eq_nil_of_length_eq_zero h
    subst this; exact ⟨0, rfl⟩
  | succ n ih =>
    have hne : d ≠ [] := by rintro rfl; simp at h
    obtain ⟨a, c, rfl⟩ : ∃ a c, d = a ++ [c] := ⟨d.dropLast, d.getLast hne, (List.dropLast_concat_getLast hne).symm⟩
    rw [trimZ_snoc]
    by_cases hc : c = 48
    · rw [if_pos hc]
      obtain ⟨k, hk⟩ := ih a (by simpa using h)
      exact ⟨k + 1, by rw [List.replicate_succ', ← List.append_assoc, ← hk, hc]⟩
    · rw [if_neg hc]; exact ⟨0, by simp⟩
theorem frac_trim (f : Nat) (h0 : f ≠ 0) (h : f < 1000000) : frac (trimZ (pad f 6)) = some f := by
  have hl : (pad f 6).length = 6 := pad_len f 5 (by omega)
  have hd := pad_isD f 5 (by omega)
  have hv := val_pad 5 f (by omega)
  obtain ⟨k, hk⟩ := trimZ_split (pad f 6)
  have hlen : (trimZ (pad f 6)).length + k = 6 := by
    have := congrArg List.length hk
    rw [List.length_append, List.length_replicate, hl] at this; omega
  have hd2 : (trimZ (pad f 6)).all isD = true := by
    rw [hk, List.all_append, Bool.and_eq_true] at hd; exact hd.1
  have hv2 : val (trimZ (pad f 6)) * 10 ^ k = f := by
    rw [hk, val_zeros] at hv; exact hv
  have hne : 1 ≤ (trimZ (pad f 6)).length := by
    cases ht : trimZ (pad f 6) with
    | nil => rw [ht] at hv2; exact absurd (by simpa [val] using hv2.symm) h0
    | cons _ _ => simp
  unfold frac
  rw [if_pos ⟨hne, by omega, hd2⟩, show 6 - (trimZ (pad f 6)).length = k by omega, hv2]

theorem hm_secs (m s : Nat) (hm' : m < 10 ^ 17) (hs : s < 60) : secs (hm m ++ 58 :: pad s 2) = some (60 * m + s) ∧ (cutB 58 (hm m ++ 58 :: pad s 2)).2.2 = true := by
  have hps := ne_of_isD (pad_isD s 1 (by omega)) (c := 58) isD_58
  have c2 := cutB_none hps
  by_cases h : m < 60
  · have hd := dec_isD 17 m (by omega)
    have c1 := cutB_found (b := pad s 2) (ne_of_isD hd.1 (c := 58) isD_58)
    unfold hm
    rw [if_pos h]
    refine ⟨?_, by rw [c1]⟩
    unfold secs
    rw [c1]
    dsimp only
    rw [c2, dec_num m (by omega), hd.2.1, six_pad s hs]
    simp
  · have hd := dec_isD 17 (m / 60) (by omega)
    have hpm := ne_of_isD (pad_isD (m % 60) 1 (by omega)) (c := 58) isD_58
    have e : (Lib.decDigits (m / 60) ++ 58 :: pad (m % 60) 2) ++ 58 :: pad s 2 = Lib.decDigits (m / 60) ++ 58 :: (pad (m % 60) 2 ++ 58 :: pad s 2) := by simp
    have c1 := cutB_found (b := pad (m % 60) 2 ++ 58 :: pad s 2) (ne_of_isD hd.1 (c := 58) isD_58)
    have c3 := cutB_found (b := pad s 2) hpm
    unfold hm
    rw [if_neg h, e]
    refine ⟨?_, by rw [c1]⟩
    unfold secs
    rw [c1]
    dsimp only
    rw [c3, dec_num (m / 60) (by omega), hd.2.1, six_pad (m % 60) (by omega)]
    dsimp only
    rw [six_pad s hs]
    simp
    omega

theorem frT_cut (f : Nat) (hf : f < 1000000) (whole : Bs) (hw : ∀ x ∈ whole, x ≠ 46) :
    (cutB 46 (whole ++ frT f)).1 = whole ∧ (if (cutB 46 (whole ++ frT f)).2.2 = true then frac (cutB 46 (whole ++ frT f)).2.1 else some 0) = some f := by
  unfold frT
  by_cases h : f = 0
  · rw [if_pos h, List.append_nil, cutB_none hw]; simp [h]
  · rw [if_neg h, cutB_found hw]
    simp [frac_trim f h hf]
theorem hm_chars (m : Nat) (hm' : m < 10 ^ 17) : ∀ x ∈ hm m, isD x = true ∨ x = 58 := by
  intro x hx
  unfold hm at hx
  split at hx
  · exact Or.inl (List.all_eq_true.1 (dec_isD 17 m (by omega)).1 x hx)
  · rcases List.mem_append.1 hx with h | h
    · exact Or.inl (List.all_eq_true.1 (dec_isD 17 (m / 60) (by omega)).1 x h)
    · rcases List.mem_cons.1 h with h | h
      · exact Or.inr h
      · exact Or.inl (List.all_eq_true.1 (pad_isD (m % 60) 1 (by omega)) x h)
theorem absV_tt (a : Nat) (ha : a ≤ 1099511627776) : absV (ttA a) = some a := by
  have h1 := hm_secs (a / 1000000 / 60) (a / 1000000 % 60) (by omega) (by omega)
  have hw : ∀ x ∈ hm (a / 1000000 / 60) ++ (58 :: pad (a / 1000000 % 60) 2), x ≠ 46 := by
    intro x hx
    rcases List.mem_append.1 hx with h | h
    · rcases hm_chars _ (by omega) x h with h | h
      · rintro rfl; exact absurd h (by decide)
      · rintro rfl; exact absurd h (by decide)
    · rcases List.mem_cons.1 h with h | h
      · rintro rfl; exact absurd h (by decide)
      · exact ne_of_isD (pad_isD _ 1 (by omega)) (by decide) x h
  obtain ⟨c1, c2⟩ := frT_cut (a % 1000000) (by omega) _ hw
  unfold absV ttA
  rw [c1, c2, h1.1, h1.2]
  dsimp only
  have e : 1000000 * (60 * (a / 1000000 / 60) + a / 1000000 % 60) + a % 1000000 = a := by omega
  rw [e, if_neg (by simp; omega)]
theorem ttA_head (a : Nat) (ha : a ≤ 1099511627776) : ∃ c r, ttA a = c :: r ∧ isD c = true := by
  have key : ∀ n, n < 10 ^ 18 → ∀ y, ∃ c r, Lib.decDigits n ++ y = c :: r ∧ isD c = true := by
    intro n hn y
    have h1 := dec_len 17 n hn
    have h2 := (dec_isD 17 n hn).1
    cases hd : Lib.decDigits n with
    | nil => rw [hd] at h1; simp at h1
    | cons c r =>
      rw [hd] at h2
      simp only [List.all_cons, Bool.and_eq_true] at h2
      exact ⟨c, r ++ y, rfl, h2.1⟩
  unfold ttA hm
  split
  · rw [List.append_assoc]; exact key _ (by omega) _
  · rw [List.append_assoc, List.append_assoc]; exact key _ (by omega) _
theorem ttx_cases (t : Int) : (t < 0 ∧ ttx t = 45 :: ttA t.natAbs) ∨ (¬ t < 0 ∧ ttx t = ttA t.natAbs) := by
  unfold ttx
  by_cases h : t < 0
  · exact Or.inl ⟨h, by rw [if_pos h]; rfl⟩
  · exact Or.inr ⟨h, by rw [if_neg h]; rfl⟩
theorem timeV_ttx (t : Int) (h : ¬ (t < -1099511627776 ∨ 1099511627776 < t)) : timeV (ttx t) = some t := by
  have ha := absV_tt t.natAbs (by omega)
  rcases ttx_cases t with ⟨h0, e⟩ | ⟨h0, e⟩
  · rw [e]
    unfold timeV
    simp only [List.head?_cons, if_true, List.tail_cons, ha]
    rw [if_neg (by omega)]
    congr 1
    omega
  · obtain ⟨c, r, hc, hd⟩ := ttA_head t.natAbs (by omega)
    rw [e]
    unfold timeV
    rw [if_neg, ha]
    · simp; omega
    · rw [hc]
      simp only [List.head?_cons, Option.some.injEq]
      rintro rfl
      exact absurd hd (by decide)

/-- Bytes that all follow in a number. -/
def good : Bs → Bool
  | [] => true
  | c :: r => (isW c || ((c == 58 || c == 46) && isD (r.headD 0))) && good r
theorem good_len : ∀ l : Bs, good l = true → numLen l = l.length
  | [], _ => rfl
  | c :: r, h => by
    rw [good, Bool.and_eq_true] at h
    rw [numLen, good_len r h.2, if_pos]
    · rfl
    · simpa using h.1
theorem isW_of_D {c : UInt8} (h : isD c = true) : isW c = true := by unfold isW; rw [h]; simp
theorem good_digits : ∀ (l r : Bs), l.all isD = true → good r = true → good (l ++ r) = true
  | [], _, _, h => h
  | c :: l, r, hd, h => by
    simp only [List.all_cons, Bool.and_eq_true] at hd
    rw [List.cons_append, good, isW_of_D hd.1, good_digits l r hd.2 h]; rfl
theorem good_sep {c : UInt8} (hc : c = 58 ∨ c = 46) (l r : Bs) (hne : l ≠ []) (hd : l.all isD = true) (h : good r = true) : good (c :: (l ++ r)) = true := by
  obtain ⟨x, y, rfl⟩ := List.exists_cons_of_ne_nil hne
  rw [good, good_digits _ _ hd h]
  simp only [List.all_cons, Bool.and_eq_true] at hd
  simp only [List.cons_append, List.headD_cons, hd.1, Bool.and_true]
  rcases hc with rfl | rfl <;> simp
theorem good_ttA (a : Nat) (ha : a ≤ 1099511627776) : good (ttA a) = true := by
  have hf : good (frT (a % 1000000)) = true := by
    unfold frT
    split
    · rfl
    · rename_i h0
      have hd := pad_isD (a % 1000000) 5 (by omega)
      obtain ⟨k, hk⟩ := trimZ_split (pad (a % 1000000) 6)
      have hd2 : (trimZ (pad (a % 1000000) 6)).all isD = true := by
        rw [hk, List.all_append, Bool.and_eq_true] at hd; exact hd.1
      have hne : trimZ (pad (a % 1000000) 6) ≠ [] := by
        intro h
        have := frac_trim (a % 1000000) h0 (by omega)
        rw [h] at this
        cases this
      have := good_sep (Or.inr rfl) _ [] hne hd2 rfl
      rwa [List.append_nil] at this
  have hn : ∀ n, n < 100 → pad n 2 ≠ [] := fun n hn h => by have := pad_len n 1 (by omega); rw [h] at this; cases this
  have hs := good_sep (Or.inl rfl) _ _ (hn (a / 1000000 % 60) (by omega)) (pad_isD (a / 1000000 % 60) 1 (by omega)) hf
  unfold ttA hm
  split
  · rw [List.append_assoc]
    exact good_digits _ _ (dec_isD 17 _ (by omega)).1 hs
  · have h2 := good_sep (Or.inl rfl) _ _ (hn (a / 1000000 / 60 % 60) (by omega)) (pad_isD (a / 1000000 / 60 % 60) 1 (by omega)) hs
    have := good_digits _ _ (dec_isD 17 (a / 1000000 / 60 / 60) (by omega)).1 h2
    simpa using this
theorem good_ttx (t : Int) (h : ¬ (t < -1099511627776 ∨ 1099511627776 < t)) : ∃ c r, ttx t = c :: r ∧ good r = true ∧ (isD c = true ∨ (c = 45 ∧ isD (r.headD 0) = true)) := by
  obtain ⟨c, r, hc, hd⟩ := ttA_head t.natAbs (by omega)
  have hg := good_ttA t.natAbs (by omega)
  rcases ttx_cases t with ⟨h0, e⟩ | ⟨h0, e⟩
  · exact ⟨45, _, e, hg, Or.inr ⟨rfl, by rw [hc]; exact hd⟩⟩
  · rw [hc, good, Bool.and_eq_true] at hg
    exact ⟨c, r, e.trans hc, hg.2, Or.inl hd⟩
theorem has58 (a : Nat) : (58 : UInt8) ∈ ttA a := by
  unfold ttA; simp
theorem num_no58 {l : Bs} (h : (58 : UInt8) ∈ l) : num l = false := by
  cases hn : num l with
  | false => rfl
  | true =>
    have := List.all_eq_true.1 (num_all hn).1 58 h
    exact absurd this (by decide)
theorem int_ttx (t : Int) : int (ttx t) = false := by
  unfold int
  rcases ttx_cases t with ⟨_, e⟩ | ⟨_, e⟩
  · rw [e]
    simp only [List.head?_cons, if_true, List.tail_cons, num_no58 (has58 _), Bool.false_and]
  · rw [e]
    split
    · rename_i h
      cases ht : ttA t.natAbs with
      | nil => rw [ht] at h; cases h
      | cons c r =>
        have h58 := has58 t.natAbs
        rw [ht] at h h58
        have hc : c = 45 := by simpa using h
        rw [hc] at h58
        have : (58 : UInt8) ∈ r := by
          rcases List.mem_cons.1 h58 with h | h
          · exact absurd h (by decide)
          · exact h
        rw [List.tail_cons, num_no58 this]; rfl
    · exact num_no58 (has58 _)
theorem tok_ttx (t : Int) (h : ¬ (t < -1099511627776 ∨ 1099511627776 < t)) : tok (ttx t) = (3, ttx t, (ttx t).length) ∧ skp false (ttx t) = ttx t := by
  obtain ⟨c, r, e, hg, hc⟩ := good_ttx t h
  have hl := good_len r hg
  have hi := int_ttx t
  have hv := timeV_ttx t h
  have hL : isL c = false := by
    rcases hc with hc | ⟨rfl, _⟩
    · have := isD_bounds hc
      unfold isL; simp; omega
    · decide
  have htake : (c :: r).take (numLen r + 1) = c :: r := by rw [hl]; exact List.take_of_length_le (by simp)
  rw [e] at hi hv ⊢
  refine ⟨?_, ?_⟩
  · rw [tok_cons, hL, if_neg (by decide), if_pos hc, htake, hi, hv]
    simp [hl]
  · have h10 : c ≠ 10 := by
      rcases hc with hc | ⟨rfl, _⟩
      · rintro rfl; exact absurd hc (by decide)
      · decide
    have h35 : c ≠ 35 := by
      rcases hc with hc | ⟨rfl, _⟩
      · rintro rfl; exact absurd hc (by decide)
      · decide
    have hS : isS c = false := by
      rcases hc with hc | ⟨rfl, _⟩
      · have hb := isD_bounds hc
        unfold isS
        have h1 : c ≠ 32 := by rintro rfl; exact absurd hc (by decide)
        have h2 : c ≠ 9 := by rintro rfl; exact absurd hc (by decide)
        have h3 : c ≠ 13 := by rintro rfl; exact absurd hc (by decide)
        simp [h1, h2, h3, h10]
      · decide
    rw [skp, if_neg h10, if_neg (by simp [hS]), if_neg h35]
theorem tokens_ttx (t : Int) (h : ¬ (t < -1099511627776 ∨ 1099511627776 < t)) : tokens (ttx t) = ([⟨3, ttx t, 0⟩, ⟨6, [], (ttx t).length⟩], []) := by
  obtain ⟨h1, h2⟩ := tok_ttx t h
  obtain ⟨c, r, e, _⟩ := good_ttx t h
  have hlen : (ttx t).length = r.length + 1 := by rw [e]; rfl
  unfold tokens
  have hne : ttx t ≠ [] := by rw [e]; simp
  rw [lex_S, h2]
  simp only [lexS, if_neg hne, h1]
  rw [if_neg (by decide), hlen, List.drop_of_length_le (by omega), lex_S]
  simp [lexS, skp]
theorem timeV_le {l : Bs} {u : Int} (h : timeV l = some u) : ¬ (u < -1099511627776 ∨ 1099511627776 < u) := by
  have habs : ∀ {x : Bs} {n : Nat}, absV x = some n → n ≤ 1099511627776 := by
    intro x n h
    unfold absV at h
    split at h
    · split at h
      · cases h
      · have := Option.some.inj h; omega
    · cases h
  unfold timeV at h
  split at h
  · split at h
    · cases h
    · rename_i n hn
      have := habs hn
      split at h
      · cases h
      · have := Option.some.inj h; omega
  · cases hx : absV l with
    | none => rw [hx] at h; cases h
    | some n =>
      have := habs hx
      rw [hx] at h
      have := Option.some.inj h
      simp at this
      omega
end Go.Proofs.YtlcmedimgoaneaaGreatDoor
