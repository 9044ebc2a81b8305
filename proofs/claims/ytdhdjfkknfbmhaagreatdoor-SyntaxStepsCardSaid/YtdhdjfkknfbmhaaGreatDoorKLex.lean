/- Tokens of a text, as functions of lists of bytes. -/
import Derived.Test.YtdhdjfkknfbmhaaGreatDoorKMath
namespace Go.Proofs.YtdhdjfkknfbmhaaGreatDoor

/-- How many bytes follow in a word. -/
def wdLen : Bs → Nat
  | [] => 0
  | c :: r => if isW c = true then wdLen r + 1 else 0
/-- How many bytes are taken together with the first one of a number. -/
def numLen : Bs → Nat
  | [] => 0
  | c :: r => if isW c = true ∨ ((c = 58 ∨ c = 46) ∧ isD (r.headD 0) = true) then numLen r + 1 else 0
def plain (c : UInt8) : Bool := decide (32 ≤ c.toNat) && decide (c.toNat ≤ 126) && c != 34 && c != 92
def esc (c : UInt8) : Option UInt8 := if c = 34 then some 34 else if c = 92 then some 92 else if c = 110 then some 10 else none
/-- The byte that the first bytes stand for within a quoted text, and how many these are. -/
def chr : Bs → UInt8 × Nat
  | [] => (0, 0)
  | c :: t => if c = 92 then (match esc (t.headD 0) with | some y => (y, 2) | none => (0, 0)) else if plain c = true then (c, 1) else (0, 0)

theorem esc_0 : esc 0 = none := by decide
theorem chr_nil : chr [] = (0, 0) := rfl
theorem chr_le (r : Bs) : (chr r).2 ≤ r.length ∧ (chr r).2 ≤ 2 := by
  match r with
  | [] => simp [chr]
  | [c] =>
    simp only [chr, List.headD_nil, esc_0]
    split
    · simp
    · split <;> simp
  | c :: x :: t =>
    simp only [chr, List.headD_cons]
    split
    · split <;> simp
    · split <;> simp

/-- What the bytes behind the first `"` stand for, and what is left where they end. -/
def body (r : Bs) : Bs × Bs :=
  if _ : (chr r).2 = 0 then ([], r) else ((chr r).1 :: (body (r.drop (chr r).2)).1, (body (r.drop (chr r).2)).2)
  termination_by r.length
  decreasing_by
    all_goals
      have := (chr_le r).1
      rw [List.length_drop]
      omega
theorem body_stop {r : Bs} (h : (chr r).2 = 0) : body r = ([], r) := by rw [body, dif_pos h]
theorem body_go {r : Bs} (h : (chr r).2 ≠ 0) : body r = ((chr r).1 :: (body (r.drop (chr r).2)).1, (body (r.drop (chr r).2)).2) := by rw [body, dif_neg h]
theorem body_len : ∀ (n : Nat) (r : Bs), r.length ≤ n → (body r).2.length ≤ r.length ∧ (body r).1.length ≤ r.length - (body r).2.length
  | 0, r, _ => by
    have : r = [] := List.eq_nil_of_length_eq_zero (by omega)
    subst this
    rw [body_stop rfl]; simp
  | n + 1, r, h => by
    by_cases h0 : (chr r).2 = 0
    · rw [body_stop h0]; simp
    · have hc := (chr_le r).1
      have := body_len n (r.drop (chr r).2) (by rw [List.length_drop]; omega)
      rw [body_go h0]
      rw [List.length_drop] at this
      simp only [List.length_cons]
      omega
theorem body_drop : ∀ (n : Nat) (r : Bs), r.length ≤ n → (body r).2 = r.drop (r.length - (body r).2.length)
  | 0, r, h => by
    have : r = [] := List.eq_nil_of_length_eq_zero (by omega)
    subst this
    rw [body_stop rfl]; simp
  | n + 1, r, h => by
    by_cases h0 : (chr r).2 = 0
    · rw [body_stop h0]; simp
    · have hc := (chr_le r).1
      have hl := (body_len n (r.drop (chr r).2) (by rw [List.length_drop]; omega)).1
      have := body_drop n (r.drop (chr r).2) (by rw [List.length_drop]; omega)
      rw [body_go h0]
      rw [List.drop_drop, List.length_drop] at this
      rw [List.length_drop] at hl
      simp only
      rw [this]
      congr 1
      rw [← this]
      omega

/-- The contents and the length of the quoted text that begins with the first byte, a `"`. -/
def qt (r : Bs) : Option (Bs × Nat) :=
  if (body r.tail).2.head? = some 34 then some ((body r.tail).1, r.length - (body r.tail).2.length + 1) else none

def signs : List Bs := [[46, 46], [60, 61], [62, 61], [123], [125], [40], [41], [91], [93], [59], [44], [61], [60], [62]]
def sgn (r : Bs) : Bs := (signs.find? (fun s => s.isPrefixOf r)).getD []
/-- The kind of the token, its text and the number of its bytes; kind 0: invalid bytes. -/
def tok (r : Bs) : Int × Bs × Nat :=
  if isL (r.headD 0) = true then (1, r.take (wdLen r.tail + 1), wdLen r.tail + 1)
  else if isD (r.headD 0) = true ∨ (r.headD 0 = 45 ∧ isD (r.tail.headD 0) = true) then
    (if int (r.take (numLen r.tail + 1)) = true then 2 else if (timeV (r.take (numLen r.tail + 1))).isSome = true then 3 else 0, r.take (numLen r.tail + 1), numLen r.tail + 1)
  else if r.headD 0 = 34 then (match qt r with | some q => (4, q.1, q.2) | none => (0, [34], 1))
  else if sgn r ≠ [] then (5, sgn r, (sgn r).length)
  else (0, r.take 1, 1)

theorem tok_cons (c : UInt8) (t : Bs) : tok (c :: t) = if isL c = true then ((1 : Int), (c :: t).take (wdLen t + 1), wdLen t + 1)
  else if isD c = true ∨ (c = 45 ∧ isD (t.headD 0) = true) then
    (if int ((c :: t).take (numLen t + 1)) = true then 2 else if (timeV ((c :: t).take (numLen t + 1))).isSome = true then 3 else 0, (c :: t).take (numLen t + 1), numLen t + 1)
  else if c = 34 then (match qt (c :: t) with | some q => (4, q.1, q.2) | none => (0, [34], 1))
  else if sgn (c :: t) ≠ [] then (5, sgn (c :: t), (sgn (c :: t)).length)
  else (0, (c :: t).take 1, 1) := rfl

/-- White space and comments skipped; cm: within a comment. -/
def skp : Bool → Bs → Bs
  | _, [] => []
  | cm, c :: r => if c = 10 then skp false r else if cm = true ∨ isS c = true then skp cm r else if c = 35 then skp true r else c :: r
theorem skp_suffix : ∀ (cm : Bool) (r : Bs), ∃ p, r = p ++ skp cm r
  | _, [] => ⟨[], rfl⟩
  | cm, c :: r => by
    rw [skp]
    split
    · obtain ⟨p, h⟩ := skp_suffix false r; exact ⟨c :: p, by rw [List.cons_append, ← h]⟩
    · split
      · obtain ⟨p, h⟩ := skp_suffix cm r; exact ⟨c :: p, by rw [List.cons_append, ← h]⟩
      · split
        · obtain ⟨p, h⟩ := skp_suffix true r; exact ⟨c :: p, by rw [List.cons_append, ← h]⟩
        · exact ⟨[], rfl⟩
theorem skp_len (cm : Bool) (r : Bs) : (skp cm r).length ≤ r.length := by
  obtain ⟨p, h⟩ := skp_suffix cm r
  have := congrArg List.length h
  rw [List.length_append] at this
  omega
theorem skp_drop (cm : Bool) (r : Bs) : skp cm r = r.drop (r.length - (skp cm r).length) := by
  obtain ⟨p, h⟩ := skp_suffix cm r
  have hl := congrArg List.length h
  rw [List.length_append] at hl
  have : r.length - (skp cm r).length = p.length := by omega
  rw [this]
  conv => rhs; rw [h]
  simp

structure Tk where
  k : Int
  t : Bs
  a : Nat

theorem wdLen_le : ∀ r : Bs, wdLen r ≤ r.length
  | [] => Nat.le_refl _
  | c :: r => by
    have := wdLen_le r
    rw [wdLen]; split <;> simp <;> omega
theorem numLen_le : ∀ r : Bs, numLen r ≤ r.length
  | [] => Nat.le_refl _
  | c :: r => by
    have := numLen_le r
    rw [numLen]; split <;> simp <;> omega
theorem sgn_pre (r : Bs) : sgn r <+: r := by
  unfold sgn
  cases h : signs.find? (fun s => s.isPrefixOf r) with
  | none => exact List.nil_prefix
  | some s =>
    have := List.find?_some h
    exact List.isPrefixOf_iff_prefix.1 this
theorem qt_le {r : Bs} {s : Bs} {n : Nat} (hr : r ≠ []) (h : qt r = some (s, n)) : 2 ≤ n ∧ n ≤ r.length ∧ s.length + 2 ≤ n := by
  unfold qt at h
  split at h
  · rename_i hq
    obtain ⟨c, t, rfl⟩ := List.exists_cons_of_ne_nil hr
    have h1 := body_len _ t (Nat.le_refl _)
    simp only [List.tail_cons, List.length_cons, Option.some.injEq, Prod.mk.injEq] at h hq
    have h2 : 1 ≤ (body t).2.length := by
      cases hb : (body t).2 with
      | nil => rw [hb] at hq; simp at hq
      | cons _ _ => simp
    obtain ⟨rfl, rfl⟩ := h
    simp only [List.length_cons]
    omega
  · simp at h
theorem tok_le {r : Bs} (hr : r ≠ []) : 1 ≤ (tok r).2.2 ∧ (tok r).2.2 ≤ r.length := by
  obtain ⟨c, t, rfl⟩ := List.exists_cons_of_ne_nil hr
  have h1 := wdLen_le t
  have h2 := numLen_le t
  rw [tok_cons]
  simp only [List.length_cons]
  by_cases a1 : isL c = true
  · rw [if_pos a1]; simp only; omega
  rw [if_neg a1]
  by_cases a2 : isD c = true ∨ c = 45 ∧ isD (t.headD 0) = true
  · rw [if_pos a2]; simp only; omega
  rw [if_neg a2]
  by_cases a3 : c = 34
  · rw [if_pos a3]
    cases h : qt (c :: t) with
    | none => simp
    | some q =>
      obtain ⟨s, n⟩ := q
      have := qt_le hr h
      simp only [List.length_cons] at this ⊢
      omega
  rw [if_neg a3]
  by_cases a4 : sgn (c :: t) ≠ []
  · rw [if_pos a4]
    have := (sgn_pre (c :: t)).length_le
    have h3 : 1 ≤ (sgn (c :: t)).length := by
      cases h4 : sgn (c :: t) with
      | nil => exact absurd h4 a4
      | cons _ _ => simp
    simp only [List.length_cons] at this
    exact ⟨h3, this⟩
  · rw [if_neg a4]; simp

/-- The tokens and the offsets of the problems; e: where the last invalid bytes end; m: how many problems there are. -/
def lex : Nat → Bs → Nat → Int → Nat → List Tk × List Nat
  | 0, _, _, _, _ => ([], [])
  | f + 1, r, at', e, m =>
    if skp false r = [] then ([⟨6, [], at' + (r.length - (skp false r).length)⟩], [])
    else if (tok (skp false r)).1 = 0 then
      (if ((at' + (r.length - (skp false r).length) : Nat) : Int) ≠ e ∧ m < 64 then
        ((lex f ((skp false r).drop (tok (skp false r)).2.2) (at' + (r.length - (skp false r).length) + (tok (skp false r)).2.2) ((at' + (r.length - (skp false r).length) + (tok (skp false r)).2.2 : Nat) : Int) (m + 1)).1,
          (at' + (r.length - (skp false r).length)) :: (lex f ((skp false r).drop (tok (skp false r)).2.2) (at' + (r.length - (skp false r).length) + (tok (skp false r)).2.2) ((at' + (r.length - (skp false r).length) + (tok (skp false r)).2.2 : Nat) : Int) (m + 1)).2)
      else lex f ((skp false r).drop (tok (skp false r)).2.2) (at' + (r.length - (skp false r).length) + (tok (skp false r)).2.2) ((at' + (r.length - (skp false r).length) + (tok (skp false r)).2.2 : Nat) : Int) m)
    else
      (⟨(tok (skp false r)).1, (tok (skp false r)).2.1, at' + (r.length - (skp false r).length)⟩ ::
        (lex f ((skp false r).drop (tok (skp false r)).2.2) (at' + (r.length - (skp false r).length) + (tok (skp false r)).2.2) e m).1,
        (lex f ((skp false r).drop (tok (skp false r)).2.2) (at' + (r.length - (skp false r).length) + (tok (skp false r)).2.2) e m).2)
def tokens (src : Bs) : List Tk × List Nat := lex (src.length + 1) src 0 (-1) 0

/-- Behind a `"` where no quoted text begins, none begins at another `"` before the byte at which it fails. -/
theorem body_barren : ∀ (n : Nat) (r : Bs), r.length ≤ n → (body r).2.head? ≠ some 34 → ∀ i, i < r.length - (body r).2.length → r[i]? = some 34 → (body (r.drop (i + 1))).2.head? ≠ some 34
  | 0, r, h, _, i, hi, _ => by
    have : r = [] := List.eq_nil_of_length_eq_zero (by omega)
    subst this; simp at hi
  | n + 1, r, h, hf, i, hi, hq => by
    by_cases h0 : (chr r).2 = 0
    · rw [body_stop h0] at hi; simp at hi
    · have hc := (chr_le r).1
      have hlt : (r.drop (chr r).2).length ≤ n := by rw [List.length_drop]; omega
      rw [body_go h0] at hf hi
      have ih := body_barren n _ hlt hf
      clear hlt h
      obtain ⟨c, t, rfl⟩ : ∃ c t, r = c :: t := by
        cases r with
        | nil => simp [chr] at h0
        | cons c t => exact ⟨c, t, rfl⟩
      by_cases h92 : c = 92
      · subst h92
        cases he : esc (t.headD 0) with
        | none => simp only [chr, if_true, he] at h0; exact (h0 trivial).elim
        | some y =>
          have hch : chr (92 :: t) = (y, 2) := by simp only [chr, if_true, he]
          rw [hch] at hf hi ih
          cases t with
          | nil => simp [esc_0] at he
          | cons x t =>
            simp only [List.drop_succ_cons, List.drop_zero, List.length_cons] at hf hi ih
            match i, hi, hq with
            | 0, _, hq => simp at hq
            | 1, _, _ => simpa using hf
            | i + 2, hi, hq =>
              have := ih i (by omega) (by simpa using hq)
              simpa using this
      · by_cases hp : plain c = true
        · have hch : chr (c :: t) = (c, 1) := by simp only [chr, h92, if_false, hp, if_true]
          rw [hch] at hf hi ih
          simp only [List.drop_succ_cons, List.drop_zero, List.length_cons] at hf hi ih
          match i, hi, hq with
          | 0, _, hq =>
            simp at hq
            subst hq
            simp [plain] at hp
          | i + 1, hi, hq =>
            have := ih i (by omega) (by simpa using hq)
            simpa using this
        · simp [chr, h92, hp] at h0
end Go.Proofs.YtdhdjfkknfbmhaaGreatDoor
