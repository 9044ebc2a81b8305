/- Tokens of bytes of which the end is another. -/
import Derived.Test.YtlcmedimgoaneaaGreatDoorKTtx
import Derived.Test.YtlcmedimgoaneaaGreatDoorKJoin
namespace Go.Proofs.YtlcmedimgoaneaaGreatDoor

theorem wdLen_swap : ∀ (a b c : Bs), wdLen (a ++ b) ≤ a.length → isW (c.headD 0) = false → wdLen (a ++ c) = wdLen (a ++ b)
  | [], b, c, h, hc => by
    have h : wdLen b = 0 := by simpa using h
    rw [List.nil_append, List.nil_append, h]
    cases c with
    | nil => rfl
    | cons x c => rw [wdLen, if_neg (by rw [List.headD_cons] at hc; simp [hc])]
  | x :: a, b, c, h, hc => by
    rw [List.cons_append, List.cons_append, wdLen, wdLen]
    rw [List.cons_append, wdLen] at h
    by_cases hx : isW x = true
    · rw [if_pos hx] at h
      rw [if_pos hx, if_pos hx, wdLen_swap a b c (by simpa using h) hc]
    · rw [if_neg hx, if_neg hx]
theorem isD_of_notW {c : UInt8} (h : isW c = false) : isD c = false := by
  cases hd : isD c with
  | false => rfl
  | true => unfold isW at h; rw [hd] at h; simp at h
theorem numLen_swap : ∀ (a b c : Bs), numLen (a ++ b) ≤ a.length → isW (c.headD 0) = false → c.headD 0 ≠ 58 → c.headD 0 ≠ 46 → numLen (a ++ c) = numLen (a ++ b)
  | [], b, c, h, hc, h1, h2 => by
    have h : numLen b = 0 := by simpa using h
    rw [List.nil_append, List.nil_append, h]
    cases c with
    | nil => rfl
    | cons x c =>
      rw [List.headD_cons] at hc h1 h2
      rw [numLen, if_neg (by simp [hc, h1, h2])]
  | [x], b, c, h, hc, h1, h2 => by
    have hd := isD_of_notW hc
    rw [List.singleton_append, List.singleton_append, numLen, numLen]
    rw [List.singleton_append, numLen] at h
    by_cases hw : isW x = true
    · rw [if_pos (Or.inl hw)] at h
      rw [if_pos (Or.inl hw), if_pos (Or.inl hw)]
      have := numLen_swap [] b c (by simpa using h) hc h1 h2
      simpa using this
    · have hn : ¬ (isW x = true ∨ (x = 58 ∨ x = 46) ∧ isD (c.headD 0) = true) := by rw [hd]; simp [hw]
      rw [if_neg hn]
      by_cases hb : isW x = true ∨ (x = 58 ∨ x = 46) ∧ isD (b.headD 0) = true
      · rw [if_pos hb] at h
        have h0 : numLen b = 0 := by simpa using h
        cases b with
        | nil => simp [hw] at hb; exact absurd hb.2 (by decide)
        | cons y b =>
          have hy : isD y = true := by simpa [hw] using (hb.resolve_left hw).2
          have : isW y = true := by unfold isW; rw [hy]; simp
          rw [numLen, if_pos (Or.inl this)] at h0
          omega
      · rw [if_neg hb]
  | x :: y :: a, b, c, h, hc, h1, h2 => by
    have ih := numLen_swap (y :: a) b c
    have e1 : ∀ z, numLen (x :: y :: a ++ z) = if isW x = true ∨ (x = 58 ∨ x = 46) ∧ isD y = true then numLen (y :: a ++ z) + 1 else 0 := fun _ => rfl
    rw [e1] at h
    rw [e1, e1]
    by_cases hx : isW x = true ∨ (x = 58 ∨ x = 46) ∧ isD y = true
    · rw [if_pos hx] at h
      rw [if_pos hx, if_pos hx, ih (by simpa using h) hc h1 h2]
    · rw [if_neg hx, if_neg hx]

theorem pre1 (s x : UInt8) (r : Bs) : [s].isPrefixOf (x :: r) = (s == x) := by simp [List.isPrefixOf]
theorem pre2 (s t x : UInt8) (r : Bs) : [s, t].isPrefixOf (x :: r) = (s == x && r.head? == some t) := by
  cases r with
  | nil => simp [List.isPrefixOf]
  | cons y r => 
    simp only [List.isPrefixOf, List.head?_cons, Bool.and_true]
    by_cases h : t = y
    · subst h; simp
    · have h2 : y ≠ t := fun e => h e.symm
      have e1 : (t == y) = false := beq_eq_false_iff_ne.2 h
      have e2 : (some y == some t) = false := beq_eq_false_iff_ne.2 (by simpa using h2)
      rw [e1, e2]
/-- The sign with which bytes begin. -/
theorem sgn_cons (x : UInt8) (r : Bs) : sgn (x :: r) = if x = 46 ∧ r.head? = some 46 then [46, 46] else if x = 60 ∧ r.head? = some 61 then [60, 61] else if x = 62 ∧ r.head? = some 61 then [62, 61]
    else if x ∈ ([123, 125, 40, 41, 91, 93, 59, 44, 61, 60, 62] : Bs) then [x] else [] := by
  unfold sgn signs
  simp only [List.find?_cons, List.find?_nil, pre1, pre2]
  by_cases hx : x ∈ ([46, 123, 125, 40, 41, 91, 93, 59, 44, 61, 60, 62] : Bs)
  · simp only [List.mem_cons, List.not_mem_nil, or_false] at hx
    have k : ∀ z, (r.head? == some z) = decide (r.head? = some z) := fun z => by
      by_cases h : r.head? = some z
      · rw [h]; simp
      · rw [decide_eq_false h, beq_eq_false_iff_ne.2 h]
    rcases hx with rfl | rfl | rfl | rfl | rfl | rfl | rfl | rfl | rfl | rfl | rfl | rfl <;> (by_cases h1 : r.head? = some 46 <;> by_cases h2 : r.head? = some 61 <;> simp [k, h1, h2])
  · simp only [List.mem_cons, List.not_mem_nil, or_false, not_or] at hx
    obtain ⟨h1, h2, h3, h4, h5, h6, h7, h8, h9, h10, h11, h12⟩ := hx
    have hb : ∀ z, x ≠ z → (z == x) = false := fun z h => beq_eq_false_iff_ne.2 (fun e => h e.symm)
    simp [h1, h2, h3, h4, h5, h6, h7, h8, h9, h10, h11, h12, hb _ h1, hb _ h2, hb _ h3, hb _ h4, hb _ h5, hb _ h6, hb _ h7, hb _ h8, hb _ h9, hb _ h10, hb _ h11, hb _ h12]
theorem sgn_swap (x : UInt8) (a b c : Bs) (h : (sgn (x :: a ++ b)).length ≤ (x :: a).length) (h1 : c.head? ≠ some 46) (h2 : c.head? ≠ some 61) : sgn (x :: a ++ c) = sgn (x :: a ++ b) := by
  rw [List.cons_append, sgn_cons] at h
  rw [List.cons_append, List.cons_append, sgn_cons, sgn_cons]
  cases a with
  | cons y a => rfl
  | nil =>
    simp only [List.nil_append, h1, h2, and_false, if_false] at h ⊢
    by_cases a1 : x = 46 ∧ b.head? = some 46
    · rw [if_pos a1] at h; simp at h
    rw [if_neg a1] at h ⊢
    by_cases a2 : x = 60 ∧ b.head? = some 61
    · rw [if_pos a2] at h; simp at h
    rw [if_neg a2] at h ⊢
    by_cases a3 : x = 62 ∧ b.head? = some 61
    · rw [if_pos a3] at h; simp at h
    rw [if_neg a3]

theorem chr_plain {x : UInt8} (t : Bs) (h : x ≠ 92) : chr (x :: t) = if plain x = true then (x, 1) else (0, 0) := by rw [chr, if_neg h]
theorem chr_bs (t : Bs) : chr (92 :: t) = match esc (t.headD 0) with | some y => (y, 2) | none => (0, 0) := by
  rw [chr, if_pos rfl]
  cases esc (t.headD 0) <;> rfl
/-- A quoted text that ends within a is the same whatever follows. -/
theorem body_swap : ∀ (n : Nat) (a b c : Bs), a.length ≤ n → b.length < (body (a ++ b)).2.length → (body (a ++ b)).2.head? = some 34 → body (a ++ c) = ((body (a ++ b)).1, (body (a ++ b)).2.take ((body (a ++ b)).2.length - b.length) ++ c)
  | n, [], b, c, _, h, _ => by
    have := (body_len _ b (Nat.le_refl _)).1
    rw [List.nil_append] at h
    omega
  | 0, x :: a, b, c, hn, h, _ => by simp at hn
  | n + 1, x :: a, b, c, hn, h, hq => by
    have hcut : ∀ q : Bs, ((q ++ b).take ((q ++ b).length - b.length)) = q := fun q => by
      rw [List.length_append, Nat.add_sub_cancel, List.take_left]
    by_cases h92 : x = 92
    · subst h92
      cases a with
      | nil =>
        simp only [List.cons_append, List.nil_append] at h hq ⊢
        cases he : esc (b.headD 0) with
        | some y =>
          have hch : chr (92 :: b) = (y, 2) := by rw [chr_bs, he]
          rw [body_go (by rw [hch]; simp), hch] at h
          have := (body_len _ ((92 :: b).drop 2) (Nat.le_refl _)).1
          simp only [List.length_drop, List.length_cons] at this h
          omega
        | none =>
          have hch : chr (92 :: b) = (0, 0) := by rw [chr_bs, he]
          rw [body_stop (by rw [hch])] at hq
          cases hq
      | cons y a =>
        simp only [List.cons_append] at h hq ⊢
        cases he : esc y with
        | none =>
          have hch : ∀ z, chr (92 :: y :: z) = (0, 0) := fun z => by rw [chr_bs, List.headD_cons, he]
          rw [body_stop (by rw [hch]), body_stop (by rw [hch])]
          have := hcut (92 :: y :: a)
          simp only [List.cons_append] at this ⊢
          rw [this]; rfl
        | some v =>
          have hch : ∀ z, chr (92 :: y :: z) = (v, 2) := fun z => by rw [chr_bs, List.headD_cons, he]
          have hb : ∀ z, body (92 :: y :: z) = (v :: (body z).1, (body z).2) := fun z => by rw [body_go (by rw [hch]; simp), hch]; rfl
          rw [hb] at h hq
          rw [hb, hb, body_swap n a b c (by simp at hn; omega) h hq]
    · simp only [List.cons_append] at h hq ⊢
      by_cases hp : plain x = true
      · have hb : ∀ z, body (x :: z) = (x :: (body z).1, (body z).2) := fun z => by
          have hch : chr (x :: z) = (x, 1) := by rw [chr_plain z h92, if_pos hp]
          rw [body_go (by rw [hch]; simp), hch]; rfl
        rw [hb] at h hq
        rw [hb, hb, body_swap n a b c (by simp at hn; omega) h hq]
      · have hch : ∀ z, chr (x :: z) = (0, 0) := fun z => by rw [chr_plain z h92, if_neg hp]
        rw [body_stop (by rw [hch]), body_stop (by rw [hch])]
        have := hcut (x :: a)
        simp only [List.cons_append] at this ⊢
        rw [this]; rfl
end Go.Proofs.YtlcmedimgoaneaaGreatDoor
