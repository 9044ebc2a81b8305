/- Bytes, numerals and times, as functions of lists of bytes. -/
namespace Go.Proofs.YtdhdjfkknfbmhaaGreatDoor

abbrev Bs := List UInt8
def isD (c : UInt8) : Bool := decide (48 ≤ c.toNat) && decide (c.toNat ≤ 57)
def isL (c : UInt8) : Bool := (decide (97 ≤ c.toNat) && decide (c.toNat ≤ 122)) || (decide (65 ≤ c.toNat) && decide (c.toNat ≤ 90))
def isW (c : UInt8) : Bool := isL c || isD c || c == 95
def isS (c : UInt8) : Bool := c == 32 || c == 9 || c == 10 || c == 13

theorem all_bytes {p : UInt8 → Prop} (h : ∀ n : Fin 256, p (UInt8.ofNat n.val)) (c : UInt8) : p c := by
  have := h ⟨c.toNat, c.toNat_lt⟩
  simpa using this

/-- What stands before the first byte c, what stands behind it, and whether there is one. -/
def cutB (c : UInt8) : Bs → Bs × Bs × Bool
  | [] => ([], [], false)
  | x :: r => if x == c then ([], r, true) else (x :: (cutB c r).1, (cutB c r).2.1, (cutB c r).2.2)

def num (l : Bs) : Bool := l.all isD && decide (1 ≤ l.length) && decide (l.length ≤ 18) && (l == [48] || l.head? != some 48)
def val (l : Bs) : Nat := l.foldl (fun n c => 10 * n + (c.toNat - 48)) 0
def int (l : Bs) : Bool := if l.head? = some 45 then num l.tail && l.tail != [48] else num l
def six (l : Bs) : Option Nat := if l.length = 2 ∧ l.all isD = true ∧ (l.headD 0).toNat ≤ 53 then some (val l) else none
def frac (l : Bs) : Option Nat := if 1 ≤ l.length ∧ l.length ≤ 6 ∧ l.all isD = true then some (val l * 10 ^ (6 - l.length)) else none
/-- The seconds that the part before the point stands for. -/
def secs (whole : Bs) : Option Nat :=
  if num (cutB 58 whole).1 = false then none
  else if (cutB 58 whole).2.2 = false then some (val (cutB 58 whole).1)
  else match six (cutB 58 (cutB 58 whole).2.1).1 with
    | none => none
    | some m => if (cutB 58 (cutB 58 whole).2.1).2.2 = false then some (60 * val (cutB 58 whole).1 + m)
      else match six (cutB 58 (cutB 58 whole).2.1).2.1 with
        | none => none
        | some s => some (60 * (60 * val (cutB 58 whole).1 + m) + s)
/-- The time that a text without a `-` stands for. -/
def absV (u : Bs) : Option Nat :=
  match secs (cutB 46 u).1, (if (cutB 46 u).2.2 = true then frac (cutB 46 u).2.1 else some 0) with
  | some s, some f => if ((cutB 58 (cutB 46 u).1).2.2 = false ∧ (cutB 46 u).2.2 = false) ∨ 1099511627776 < 1000000 * s + f then none else some (1000000 * s + f)
  | _, _ => none
def timeV (l : Bs) : Option Int :=
  if l.head? = some 45 then (match absV l.tail with | none => none | some n => if n = 0 then none else some (-(n : Int)))
  else (absV l).map fun n => (n : Int)
/-- What Time returns. -/
def timeT (l : Bs) : Int := (timeV l).getD 0
def timeE (l : Bs) : Int := if (timeV l).isSome then 0 else 50

theorem cutB_none {c : UInt8} : ∀ {l : Bs}, (∀ x ∈ l, x ≠ c) → cutB c l = (l, [], false)
  | [], _ => rfl
  | x :: r, h => by
    have h1 : x ≠ c := h x (by simp)
    have h2 := cutB_none (l := r) (c := c) (fun y hy => h y (by simp [hy]))
    rw [cutB, if_neg (by simpa using h1), h2]
theorem cutB_found {c : UInt8} {b : Bs} : ∀ {a : Bs}, (∀ x ∈ a, x ≠ c) → cutB c (a ++ c :: b) = (a, b, true)
  | [], _ => by simp [cutB]
  | x :: r, h => by
    have h1 : x ≠ c := h x (by simp)
    have h2 := cutB_found (a := r) (b := b) (c := c) (fun y hy => h y (by simp [hy]))
    rw [List.cons_append, cutB, if_neg (by simpa using h1), h2]
theorem cutB_cases (c : UInt8) : ∀ l : Bs, (cutB c l = (l, [], false) ∧ ∀ x ∈ l, x ≠ c) ∨ ∃ a b, l = a ++ c :: b ∧ (∀ x ∈ a, x ≠ c) ∧ cutB c l = (a, b, true)
  | [] => Or.inl ⟨rfl, by simp⟩
  | x :: r => by
    by_cases h : x = c
    · subst h
      exact Or.inr ⟨[], r, rfl, by simp, by simp [cutB]⟩
    · rcases cutB_cases c r with ⟨h1, h2⟩ | ⟨a, b, h1, h2, h3⟩
      · have h4 : ∀ y ∈ x :: r, y ≠ c := by
          intro y hy
          rcases List.mem_cons.1 hy with rfl | hy
          · exact h
          · exact h2 y hy
        exact Or.inl ⟨cutB_none h4, h4⟩
      · have h4 : ∀ y ∈ x :: a, y ≠ c := by
          intro y hy
          rcases List.mem_cons.1 hy with rfl | hy
          · exact h
          · exact h2 y hy
        exact Or.inr ⟨x :: a, b, by rw [h1]; rfl, h4, by rw [h1, ← List.cons_append]; exact cutB_found h4⟩

theorem cutB_len (c : UInt8) (l : Bs) : (cutB c l).1.length ≤ l.length ∧ (cutB c l).2.1.length ≤ l.length := by
  rcases cutB_cases c l with ⟨h, _⟩ | ⟨a, b, h, _, h2⟩
  · rw [h]; simp
  · rw [h2]; subst h; simp; omega

theorem val_snoc (l : Bs) (c : UInt8) : val (l ++ [c]) = 10 * val l + (c.toNat - 48) := by simp [val]
theorem isD_bounds {c : UInt8} (h : isD c = true) : 48 ≤ c.toNat ∧ c.toNat ≤ 57 := by simpa [isD] using h
theorem val_lt : ∀ (n : Nat) (l : Bs), l.length = n → l.all isD = true → val l < 10 ^ n
  | 0, l, hl, _ => by
    have : l = [] := List.eq_nil_of_length_eq_zero hl
    subst this; decide
  | n + 1, l, hl, h => by
    have hne : l ≠ [] := by rintro rfl; simp at hl
    obtain ⟨a, c, rfl⟩ : ∃ a c, l = a ++ [c] := ⟨l.dropLast, l.getLast hne, (List.dropLast_concat_getLast hne).symm⟩
    rw [val_snoc]
    rw [List.all_append] at h
    simp only [Bool.and_eq_true, List.all_cons, List.all_nil, Bool.and_true] at h
    have h1 := val_lt n a (by simpa using hl) h.1
    have h2 := isD_bounds h.2
    rw [Nat.pow_succ]
    omega

/-- The pieces between bytes c, at most k + 1 of them. -/
def splitC (c : UInt8) : Nat → Bs → List Bs
  | 0, l => [l]
  | k + 1, l => if (cutB c l).2.2 = true then (cutB c l).1 :: splitC c k (cutB c l).2.1 else [l]

theorem splitC_more (c : UInt8) : ∀ (k : Nat) (l : Bs), l.length ≤ k → ∀ j, l.length ≤ j → splitC c k l = splitC c j l
  | 0, l, h, j, hj => by
    have : l = [] := List.eq_nil_of_length_eq_zero (by omega)
    subst this
    cases j with
    | zero => rfl
    | succ j => rfl
  | k + 1, l, h, j, hj => by
    cases j with
    | zero =>
      have : l = [] := List.eq_nil_of_length_eq_zero (by omega)
      subst this; rfl
    | succ j =>
      rw [splitC, splitC]
      rcases cutB_cases c l with ⟨h1, _⟩ | ⟨a, b, h1, _, h2⟩
      · rw [h1]; rfl
      · rw [h2]
        have hb : b.length ≤ k ∧ b.length ≤ j := by subst h1; simp at h hj; omega
        simp only [if_true]
        rw [splitC_more c k b hb.1 j hb.2]
theorem splitC_min (c : UInt8) (k : Nat) (l : Bs) : splitC c (min k l.length) l = splitC c k l := by
  by_cases h : k ≤ l.length
  · rw [Nat.min_eq_left h]
  · rw [Nat.min_eq_right (by omega)]
    exact splitC_more c _ l (Nat.le_refl _) k (by omega)

/-- The number of seconds that the parts stand for, the first being n. -/
def sixF : Nat → List Bs → Option Nat
  | n, [] => some n
  | n, p :: r => match six p with | none => none | some m => sixF (60 * n + m) r
def wsec : List Bs → Option Nat
  | [] => none
  | a :: r => if num a = false then none else if 1099511 < val a then none else sixF (val a) r

theorem six_lt {l : Bs} {n : Nat} (h : six l = some n) : n < 60 := by
  unfold six at h
  split at h
  · rename_i hc
    obtain ⟨h1, h2, h3⟩ := hc
    match l, h1 with
    | [a, b], _ =>
      simp only [List.all_cons, List.all_nil, Bool.and_true, Bool.and_eq_true] at h2
      have ha := isD_bounds h2.1
      have hb := isD_bounds h2.2
      simp only [List.headD_cons] at h3
      simp only [val, List.foldl_cons, List.foldl_nil, Option.some.injEq] at h
      omega
  · simp at h
theorem six_colon {l : Bs} (h : (58 : UInt8) ∈ l) : six l = none := by
  unfold six
  rw [if_neg]
  rintro ⟨_, h2, _⟩
  have := List.all_eq_true.1 h2 58 h
  exact absurd this (by decide)

theorem splitC_0 (c : UInt8) (l : Bs) : splitC c 0 l = [l] := rfl
theorem splitC_none {c : UInt8} {l : Bs} (k : Nat) (h : cutB c l = (l, [], false)) : splitC c k l = [l] := by
  cases k with
  | zero => rfl
  | succ k => rw [splitC, h]; rfl
theorem splitC_found {c : UInt8} {l a b : Bs} (k : Nat) (h : cutB c l = (a, b, true)) : splitC c (k + 1) l = a :: splitC c k b := by
  rw [splitC, h]; rfl

theorem isD_58 : isD 58 = false := by decide
theorem num_all {l : Bs} (h : num l = true) : l.all isD = true ∧ 1 ≤ l.length ∧ l.length ≤ 18 := by
  unfold num at h
  simp only [Bool.and_eq_true, decide_eq_true_eq] at h
  exact ⟨h.1.1.1, h.1.1.2, h.1.2⟩

/-- The four shapes of the part before the point. -/
inductive Shape (whole : Bs) : Prop
  | one (h : cutB 58 whole = (whole, [], false))
  | two (a b : Bs) (h : cutB 58 whole = (a, b, true)) (h2 : cutB 58 b = (b, [], false))
  | three (a b c : Bs) (h : cutB 58 whole = (a, b ++ 58 :: c, true)) (h2 : cutB 58 (b ++ 58 :: c) = (b, c, true)) (h3 : cutB 58 c = (c, [], false))
  | four (a b c d : Bs) (h : cutB 58 whole = (a, b ++ 58 :: (c ++ 58 :: d), true)) (h2 : cutB 58 (b ++ 58 :: (c ++ 58 :: d)) = (b, c ++ 58 :: d, true)) (h3 : cutB 58 (c ++ 58 :: d) = (c, d, true))
theorem shape (whole : Bs) : Shape whole := by
  rcases cutB_cases 58 whole with ⟨h, _⟩ | ⟨a, r, _, _, h⟩
  · exact .one h
  rcases cutB_cases 58 r with ⟨h2, _⟩ | ⟨b, r2, hr, _, h2⟩
  · exact .two a r h h2
  subst hr
  rcases cutB_cases 58 r2 with ⟨h3, _⟩ | ⟨c, d, hr, _, h3⟩
  · exact .three a b r2 h h2 h3
  subst hr
  exact .four a b c d h h2 h3

/-- What the program does with the part before the point. -/
theorem secs_of (whole : Bs) :
    (3 < (splitC 58 3 whole).length → secs whole = none) ∧
    ((splitC 58 3 whole).length ≤ 3 → (∀ s, wsec (splitC 58 3 whole) = some s → secs whole = some s) ∧ (wsec (splitC 58 3 whole) = none → ∀ s, secs whole = some s → 1099511 < s)) ∧
    (((splitC 58 3 whole).length = 1) ↔ (cutB 58 whole).2.2 = false) := by
  rcases shape whole with h | ⟨a, b, h, h2⟩ | ⟨a, b, c, h, h2, h3⟩ | ⟨a, b, c, d, h, h2, h3⟩
  · rw [splitC_none 3 h]
    refine ⟨by simp, fun _ => ?_, by simp [h]⟩
    simp only [wsec, secs, h, sixF]
    by_cases hn : num whole = false
    · simp [hn]
    · by_cases hv : 1099511 < val whole
      · simp [hn, hv]
      · simp [hn, hv]
  · rw [splitC_found 2 h, splitC_none 2 h2]
    refine ⟨by simp, fun _ => ?_, by simp [h]⟩
    simp only [wsec, secs, h, h2, sixF]
    by_cases hn : num a = false
    · simp [hn]
    · cases hb : six b with
      | none => simp [hn]
      | some m =>
        by_cases hv : 1099511 < val a
        · simp [hn, hv]; omega
        · simp [hn, hv]
  · rw [splitC_found 2 h, splitC_found 1 h2, splitC_none 1 h3]
    refine ⟨by simp, fun _ => ?_, by simp [h]⟩
    simp only [wsec, secs, h, h2, sixF]
    by_cases hn : num a = false
    · simp [hn]
    · cases hb : six b with
      | none => simp [hn]
      | some m =>
        cases hc : six c with
        | none => simp [hn]
        | some k =>
          by_cases hv : 1099511 < val a
          · simp [hn, hv]; omega
          · simp [hn, hv]
  · rw [splitC_found 2 h, splitC_found 1 h2, splitC_found 0 h3, splitC_0]
    refine ⟨fun _ => ?_, by simp, by simp [h]⟩
    have hc : six (c ++ 58 :: d) = none := six_colon (by simp)
    simp only [secs, h, h2, hc]
    by_cases hn : num a = false
    · simp [hn]
    · cases hb : six b with
      | none => simp [hn]
      | some m => simp [hn]

theorem val_zeros (l : Bs) : ∀ k, val (l ++ List.replicate k 48) = val l * 10 ^ k
  | 0 => by simp
  | k + 1 => by
    rw [List.replicate_succ', ← List.append_assoc, val_snoc, val_zeros l k, Nat.pow_succ]
    have : (48 : UInt8).toNat = 48 := rfl
    rw [this, Nat.sub_self, Nat.add_zero, ← Nat.mul_assoc, Nat.mul_comm 10, Nat.mul_assoc, Nat.mul_comm 10]

def isFr (l : Bs) : Bool := decide (1 ≤ l.length) && decide (l.length ≤ 6) && l.all isD
theorem frac_eq (l : Bs) : frac l = if isFr l = true then some (val (l ++ List.replicate (6 - l.length) 48)) else none := by
  unfold frac isFr
  rw [val_zeros]
  by_cases h : 1 ≤ l.length ∧ l.length ≤ 6 ∧ l.all isD = true
  · rw [if_pos h, if_pos (by simp [h])]
  · rw [if_neg h, if_neg (by simpa [and_assoc] using h)]

/-- The time without its sign, as the program finds it. -/
def timeP (u : Bs) : Option Nat :=
  if 3 < (splitC 58 3 (cutB 46 u).1).length ∨ ((cutB 46 u).2.2 = true ∧ isFr (cutB 46 u).2.1 = false) then none
  else if (splitC 58 3 (cutB 46 u).1).length = 1 ∧ (cutB 46 u).2.2 = false then none
  else match wsec (splitC 58 3 (cutB 46 u).1) with
    | none => none
    | some s => if 1099511627776 < s * 1000000 + val ((cutB 46 u).2.1 ++ List.replicate (6 - (cutB 46 u).2.1.length) 48) then none
      else some (s * 1000000 + val ((cutB 46 u).2.1 ++ List.replicate (6 - (cutB 46 u).2.1.length) 48))

theorem cutB_nofind {c : UInt8} {l : Bs} (h : (cutB c l).2.2 = false) : (cutB c l).2.1 = [] := by
  rcases cutB_cases c l with ⟨h1, _⟩ | ⟨a, b, _, _, h1⟩
  · rw [h1]
  · rw [h1] at h; simp at h

theorem timeP_eq (u : Bs) : timeP u = absV u := by
  unfold timeP absV
  obtain ⟨h1, h2, h3⟩ := secs_of (cutB 46 u).1
  by_cases hl : 3 < (splitC 58 3 (cutB 46 u).1).length
  · rw [if_pos (Or.inl hl), h1 hl]
  have h2 := h2 (by omega)
  rw [frac_eq]
  by_cases hp : (cutB 46 u).2.2 = true
  · by_cases hf : isFr (cutB 46 u).2.1 = true
    · rw [if_neg (by simp [hl, hf]), if_neg (by simp [hp]), if_pos hp, if_pos hf]
      cases hw : wsec (splitC 58 3 (cutB 46 u).1) with
      | none =>
        cases hs : secs (cutB 46 u).1 with
        | none => rfl
        | some s =>
          have := h2.2 hw s hs
          simp only
          rw [if_pos]
          omega
      | some s =>
        rw [h2.1 s hw]
        simp only
        rw [Nat.mul_comm s]
        simp [hp]
    · rw [if_pos (Or.inr ⟨hp, by simpa using hf⟩), if_pos hp, if_neg hf]
      cases secs (cutB 46 u).1 <;> rfl
  · have hp' : (cutB 46 u).2.2 = false := by simpa using hp
    rw [if_neg (by simp [hl, hp]), if_neg hp, cutB_nofind hp']
    by_cases h4 : (splitC 58 3 (cutB 46 u).1).length = 1
    · rw [if_pos ⟨h4, hp'⟩]
      have := h3.1 h4
      cases secs (cutB 46 u).1 with
      | none => rfl
      | some s => simp [this, hp']
    · rw [if_neg (by simp [h4])]
      have h5 : (cutB 58 (cutB 46 u).1).2.2 = true := by
        cases h6 : (cutB 58 (cutB 46 u).1).2.2 with
        | true => rfl
        | false => exact absurd (h3.2 h6) h4
      have hv : val ([] ++ List.replicate (6 - ([] : Bs).length) 48) = 0 := by decide
      rw [hv]
      cases hw : wsec (splitC 58 3 (cutB 46 u).1) with
      | none =>
        cases hs : secs (cutB 46 u).1 with
        | none => rfl
        | some s =>
          have := h2.2 hw s hs
          simp only
          rw [if_pos]
          omega
      | some s =>
        rw [h2.1 s hw]
        simp only
        rw [Nat.mul_comm s]
        simp [h5]
theorem wsec_le {l : List Bs} {s : Nat} (h : wsec l = some s) (hl : l.length ≤ 3) : s ≤ 4000000000 := by
  match l, hl with
  | [], _ => simp [wsec] at h
  | [a], _ =>
    simp only [wsec, sixF] at h
    split at h
    · simp at h
    · split at h
      · simp at h
      · simp at h; omega
  | [a, b], _ =>
    simp only [wsec, sixF] at h
    split at h
    · simp at h
    · split at h
      · simp at h
      · cases hb : six b with
        | none => simp [hb] at h
        | some m => have := six_lt hb; simp [hb] at h; omega
  | [a, b, c], _ =>
    simp only [wsec, sixF] at h
    split at h
    · simp at h
    · split at h
      · simp at h
      · cases hb : six b with
        | none => simp [hb] at h
        | some m =>
          have := six_lt hb
          cases hc : six c with
          | none => simp [hb, hc] at h
          | some k => have := six_lt hc; simp [hb, hc] at h; omega
  | a :: b :: c :: d :: r, h4 => simp only [List.length_cons] at h4; omega

theorem val_ge : ∀ (n : Nat) (l : Bs), l.length = n + 1 → l.all isD = true → l.head? ≠ some 48 → 10 ^ n ≤ val l
  | 0, l, hl, hd, h => by
    match l, hl with
    | [c], _ =>
      have h1 := isD_bounds (c := c) (by simpa using hd)
      have h2 : c ≠ 48 := by simpa using h
      have h3 : c.toNat ≠ 48 := fun e => h2 (UInt8.toNat_inj.1 e)
      simp [val]
      omega
  | n + 1, l, hl, hd, h => by
    have hne : l ≠ [] := by rintro rfl; simp at hl
    obtain ⟨a, c, rfl⟩ : ∃ a c, l = a ++ [c] := ⟨l.dropLast, l.getLast hne, (List.dropLast_concat_getLast hne).symm⟩
    have hla : a.length = n + 1 := by simpa using hl
    rw [List.all_append] at hd
    simp only [Bool.and_eq_true] at hd
    have h1 := val_ge n a hla hd.1 (by
      cases a with
      | nil => simp at hla
      | cons x t => simpa using h)
    rw [val_snoc, Nat.pow_succ]
    omega
theorem num_long {l : Bs} (h : num l = true) (hl : 13 < l.length) : 10 ^ 13 ≤ val l := by
  unfold num at h
  simp only [Bool.and_eq_true, decide_eq_true_eq, Bool.or_eq_true] at h
  obtain ⟨⟨⟨h1, h2⟩, h3⟩, h4⟩ := h
  rcases h4 with h4 | h4
  · have : l = [48] := by simpa using h4
    subst this; simp at hl
  · have := val_ge (l.length - 1) l (by omega) h1 (by simpa using h4)
    exact Nat.le_trans (Nat.pow_le_pow_right (by decide) (by omega)) this

def sixI (l : Bs) : Int := match six l with | some n => n | none => -1
def fracI (l : Bs) : Int := match frac l with | some n => n | none => -1

/-- The specification's Time, over what its callees find. -/
def tR (neg pt colon twice nf : Bool) (len : Nat) (mi v n m : Int) : Int × Int :=
  if nf = false ∨ 13 < len ∨ mi < 0 ∨ (colon = false ∧ pt = false) then (0, 50)
  else if colon = true ∧ n < 0 then (0, 50)
  else if colon = true ∧ twice = true ∧ m < 0 then (0, 50)
  else if 1099511627776 < (if colon = true then (if twice = true then 60 * (60 * v + n) + m else 60 * v + n) else v) then (0, 50)
  else if 1099511627776 < 1000000 * (if colon = true then (if twice = true then 60 * (60 * v + n) + m else 60 * v + n) else v) + mi ∨ (neg = true ∧ 1000000 * (if colon = true then (if twice = true then 60 * (60 * v + n) + m else 60 * v + n) else v) + mi = 0) then (0, 50)
  else (if neg = true then -(1000000 * (if colon = true then (if twice = true then 60 * (60 * v + n) + m else 60 * v + n) else v) + mi) else 1000000 * (if colon = true then (if twice = true then 60 * (60 * v + n) + m else 60 * v + n) else v) + mi, 0)

theorem absV_eq (u : Bs) (neg : Bool) :
    tR neg (cutB 46 u).2.2 (cutB 58 (cutB 46 u).1).2.2 (cutB 58 (cutB 58 (cutB 46 u).1).2.1).2.2 (num (cutB 58 (cutB 46 u).1).1) (cutB 58 (cutB 46 u).1).1.length
      (if (cutB 46 u).2.2 = true then fracI (cutB 46 u).2.1 else 0) (val (cutB 58 (cutB 46 u).1).1) (sixI (cutB 58 (cutB 58 (cutB 46 u).1).2.1).1) (sixI (cutB 58 (cutB 58 (cutB 46 u).1).2.1).2.1)
    = match absV u with | none => (0, 50) | some t => if neg = true ∧ t = 0 then (0, 50) else (if neg = true then -(t : Int) else t, 0) := by
  unfold absV secs sixI fracI
  have hlong := num_long (l := (cutB 58 (cutB 46 u).1).1)
  generalize (cutB 58 (cutB 46 u).1).1.length = len at *
  generalize (cutB 58 (cutB 46 u).1).2.2 = colon at *
  generalize (cutB 46 u).2.2 = pt at *
  generalize (cutB 58 (cutB 58 (cutB 46 u).1).2.1).2.2 = twice at *
  generalize num (cutB 58 (cutB 46 u).1).1 = nf at *
  generalize val (cutB 58 (cutB 46 u).1).1 = v at *
  generalize six (cutB 58 (cutB 58 (cutB 46 u).1).2.1).1 = on at *
  generalize six (cutB 58 (cutB 58 (cutB 46 u).1).2.1).2.1 = om at *
  generalize frac (cutB 46 u).2.1 = ofr at *
  have key : ∀ (s f : Nat) (q : Prop) [Decidable q], (q → 1099511627776 < s) →
      (if q then ((0 : Int), (50 : Int)) else if 1099511627776 < (s : Int) then (0, 50) else if 1099511627776 < 1000000 * (s : Int) + f ∨ (neg = true ∧ 1000000 * (s : Int) + f = 0) then (0, 50)
        else (if neg = true then -(1000000 * (s : Int) + f) else 1000000 * (s : Int) + f, 0))
      = match (if 1099511627776 < 1000000 * s + f then none else some (1000000 * s + f) : Option Nat) with | none => (0, 50) | some t => if neg = true ∧ t = 0 then (0, 50) else (if neg = true then -(t : Int) else t, 0) := by
    intro s f q _ hq
    by_cases h1 : q
    · have := hq h1
      rw [if_pos h1, if_pos (show 1099511627776 < 1000000 * s + f by omega)]
    rw [if_neg h1]
    by_cases h2 : 1099511627776 < 1000000 * s + f
    · rw [if_pos h2]
      by_cases h3 : 1099511627776 < (s : Int)
      · rw [if_pos h3]
      · rw [if_neg h3, if_pos (Or.inl (by omega))]
    · rw [if_neg h2, if_neg (show ¬ 1099511627776 < (s : Int) by omega)]
      by_cases h4 : neg = true ∧ 1000000 * s + f = 0
      · rw [if_pos (Or.inr ⟨h4.1, by omega⟩)]
        simp only [if_pos h4]
      · rw [if_neg (by rintro (h | h); · omega
                       · exact h4 ⟨h.1, by omega⟩)]
        simp only [if_neg h4]
        have h5 : ((1000000 * s + f : Nat) : Int) = 1000000 * (s : Int) + f := by omega
        rw [h5]
  have bad : tR neg pt colon twice false len (if pt = true then (match ofr with | some n => (n : Int) | none => -1) else 0) v (match on with | some n => (n : Int) | none => -1) (match om with | some n => (n : Int) | none => -1) = (0, 50) := by
    unfold tR; rw [if_pos (Or.inl rfl)]
  cases nf with
  | false => rw [bad]; rfl
  | true =>
    have hlong := hlong rfl
    have key2 : ∀ (s f : Nat), (13 < len → 1099511627776 < s) → tR neg true false twice true len f s 0 0 = match (if 1099511627776 < 1000000 * s + f then none else some (1000000 * s + f) : Option Nat) with | none => (0, 50) | some t => if neg = true ∧ t = 0 then (0, 50) else (if neg = true then -(t : Int) else t, 0) := by
      intro s f h
      rw [← key s f (13 < len) h]
      have h0 : ¬ ((f : Int) < 0) := by omega
      simp [tR, h0]
    have hv : 13 < len → 1099511627776 < v := fun h => Nat.lt_of_lt_of_le (by decide) (hlong h)
    have mid : ∀ (s : Int) (f : Int) (n m : Int), (colon = true → 0 ≤ n) → (colon = true → twice = true → 0 ≤ m) → (colon = true ∨ pt = true) → s = (if colon = true then (if twice = true then 60 * (60 * (v : Int) + n) + m else 60 * v + n) else v) →
        tR neg pt colon twice true len f v n m = tR neg true false twice true len f s 0 0 := by
      intro s f n m h1 h2 h3 hs
      unfold tR
      rw [← hs]
      have e1 : (true = false ∨ 13 < len ∨ f < 0 ∨ colon = false ∧ pt = false) ↔ (true = false ∨ 13 < len ∨ f < 0 ∨ false = false ∧ true = false) := by
        rcases h3 with h | h <;> simp [h]
      have e2 : ¬ (colon = true ∧ n < 0) := fun h => by have := h1 h.1; omega
      have e3 : ¬ (colon = true ∧ twice = true ∧ m < 0) := fun h => by have := h2 h.1 h.2.1; omega
      simp only [e1, e2, e3, if_false]
      simp
    clear key bad
    cases colon with
    | false =>
      cases pt with
      | false => simp [tR]
      | true =>
        cases ofr with
        | none => simp [tR]
        | some f =>
          refine Eq.trans (mid v f _ _ (by simp) (by simp) (Or.inr rfl) (by simp)) (Eq.trans (key2 v f hv) ?_)
          simp
    | true =>
      cases on with
      | none => cases pt <;> simp [tR]
      | some n =>
        cases twice with
        | false =>
          cases pt with
          | false =>
            refine Eq.trans (mid ((60 * v + n : Nat) : Int) ((0 : Nat) : Int) _ _ (fun _ => Int.natCast_nonneg _) (by simp) (Or.inl rfl) (by simp)) (Eq.trans (key2 (60 * v + n) 0 (fun h => by have := hv h; omega)) ?_)
            simp
          | true =>
            cases ofr with
            | none => simp [tR]
            | some f =>
              refine Eq.trans (mid ((60 * v + n : Nat) : Int) ((f : Nat) : Int) _ _ (fun _ => Int.natCast_nonneg _) (by simp) (Or.inl rfl) (by simp)) (Eq.trans (key2 (60 * v + n) f (fun h => by have := hv h; omega)) ?_)
              simp
        | true =>
          cases om with
          | none => cases pt <;> cases ofr <;> simp [tR]
          | some m =>
            cases pt with
            | false =>
              refine Eq.trans (mid ((60 * (60 * v + n) + m : Nat) : Int) ((0 : Nat) : Int) _ _ (fun _ => Int.natCast_nonneg _) (fun _ _ => Int.natCast_nonneg _) (Or.inl rfl) (by simp)) (Eq.trans (key2 (60 * (60 * v + n) + m) 0 (fun h => by have := hv h; omega)) ?_)
              simp
            | true =>
              cases ofr with
              | none => simp [tR]
              | some f =>
                refine Eq.trans (mid ((60 * (60 * v + n) + m : Nat) : Int) ((f : Nat) : Int) _ _ (fun _ => Int.natCast_nonneg _) (fun _ _ => Int.natCast_nonneg _) (Or.inl rfl) (by simp)) (Eq.trans (key2 (60 * (60 * v + n) + m) f (fun h => by have := hv h; omega)) ?_)
                simp
end Go.Proofs.YtdhdjfkknfbmhaaGreatDoor
