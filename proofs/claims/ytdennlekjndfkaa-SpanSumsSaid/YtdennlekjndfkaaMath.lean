/- Plain mathematics of sets of times, without any program: the functions that both implementations of layer span compute. -/
namespace Go.Proofs.Ytdennlekjndfkaa

abbrev Sp := Int × Int

/-- A span that is valid. -/
def okSp (s : Sp) : Bool := decide (-70368744177664 ≤ s.1) && (decide (s.2 ≤ 70368744177664) && decide (s.1 ≤ s.2))
theorem okSp_iff (s : Sp) : okSp s = true ↔ -70368744177664 ≤ s.1 ∧ s.2 ≤ 70368744177664 ∧ s.1 ≤ s.2 := by simp [okSp]
theorem okSp_no (s : Sp) : okSp s = false ↔ s.1 < -70368744177664 ∨ 70368744177664 < s.2 ∨ s.2 < s.1 := by
  rw [← Bool.not_eq_true, okSp_iff]; omega
def errSp (s : Sp) : Int := if okSp s then 0 else 10

/-- The drift. -/
def driftErr (t p : Int) : Bool := decide (t < -2199023255552) || (decide (2199023255552 < t) || (decide (p < 0) || decide (100000 < p)))
theorem driftErr_no (t p : Int) : driftErr t p = false ↔ -2199023255552 ≤ t ∧ t ≤ 2199023255552 ∧ 0 ≤ p ∧ p ≤ 100000 := by
  simp [driftErr]
def absI (t : Int) : Int := if t < 0 then -t else t
def driftN (t p : Int) : Int := if driftErr t p then 0 else (absI t * p + 999999) / 1000000
def driftE (t p : Int) : Int := if driftErr t p then 1 else 0

/-- Is a time in one of the spans? -/
def inS (l : List Sp) (t : Int) : Bool := l.any fun s => decide (s.1 ≤ t) && decide (t ≤ s.2)
/-- The error of a list. -/
def errL (l : List Sp) : Int := if 4096 < l.length then 2 else if l.all okSp then 0 else 10

/-- One step of the reference's way to lay a span into a tidy list: what has come out, the span as it is now, has it come out. -/
def wStep (st : List Sp × Sp × Bool) (x : Sp) : List Sp × Sp × Bool :=
  if x.2 + 1 < st.2.1.1 then (st.1 ++ [x], st.2.1, st.2.2)
  else if st.2.1.2 + 1 < x.1 then (if st.2.2 then st.1 ++ [x] else st.1 ++ [st.2.1] ++ [x], st.2.1, true)
  else (st.1, (min st.2.1.1 x.1, max st.2.1.2 x.2), st.2.2)
def wRun (l : List Sp) (s : Sp) : List Sp × Sp × Bool := l.foldl wStep ([], s, false)
def withS (l : List Sp) (s : Sp) : List Sp := if (wRun l s).2.2 then (wRun l s).1 else (wRun l s).1 ++ [(wRun l s).2.1]
def canon (l : List Sp) : List Sp := l.foldl withS []
/-- Numbers that leave room. -/
def Bd (s : Sp) : Prop := (-140737488355328 ≤ s.1 ∧ s.1 ≤ 140737488355328) ∧ (-140737488355328 ≤ s.2 ∧ s.2 ≤ 140737488355328)
theorem Bd.ok {s : Sp} (h : okSp s = true) : Bd s := by rw [okSp_iff] at h; unfold Bd; omega
theorem wStep_len (st : List Sp × Sp × Bool) (x : Sp) (n : Nat) (h : (if st.2.2 then st.1.length else st.1.length + 1) ≤ n) : (if (wStep st x).2.2 then (wStep st x).1.length else (wStep st x).1.length + 1) ≤ n + 1 := by
  obtain ⟨o, s, d⟩ := st
  unfold wStep
  dsimp only at *
  split
  · cases d <;> simp at * <;> omega
  · split
    · cases d <;> simp at * <;> omega
    · cases d <;> simp at * <;> omega
theorem wStep_bd (st : List Sp × Sp × Bool) (x : Sp) (h1 : ∀ s ∈ st.1, Bd s) (h2 : Bd st.2.1) (hx : Bd x) : (∀ s ∈ (wStep st x).1, Bd s) ∧ Bd (wStep st x).2.1 := by
  obtain ⟨o, s, d⟩ := st
  unfold wStep
  dsimp only at *
  split
  · exact ⟨by intro y hy; simp at hy; rcases hy with hy | hy; (exact h1 y hy); (exact hy ▸ hx), h2⟩
  · split
    · refine ⟨?_, h2⟩
      cases d
      · intro y hy; simp at hy; rcases hy with hy | hy | hy; (exact h1 y hy); (exact hy ▸ h2); (exact hy ▸ hx)
      · intro y hy; simp at hy; rcases hy with hy | hy; (exact h1 y hy); (exact hy ▸ hx)
    · refine ⟨h1, ?_⟩
      unfold Bd at *; dsimp only; omega
theorem wRun_take (l : List Sp) (s : Sp) (k : Nat) (h : k < l.length) : wRun (l.take (k + 1)) s = wStep (wRun (l.take k) s) l[k] := by
  unfold wRun; rw [List.take_succ_eq_append_getElem h, List.foldl_append]; rfl
theorem wRun_okT (l : List Sp) (s : Sp) (hs : Bd s) (hl : ∀ x ∈ l, Bd x) : ∀ k, k ≤ l.length → (∀ y ∈ (wRun (l.take k) s).1, Bd y) ∧ Bd (wRun (l.take k) s).2.1 ∧ (if (wRun (l.take k) s).2.2 then (wRun (l.take k) s).1.length else (wRun (l.take k) s).1.length + 1) ≤ k + 1 := by
  intro k
  induction k with
  | zero => intro _; exact ⟨by simp [wRun], hs, by simp [wRun]⟩
  | succ k ih =>
    intro hk
    obtain ⟨a, b, c⟩ := ih (by omega)
    rw [wRun_take l s k (by omega)]
    have := wStep_bd (wRun (l.take k) s) l[k] a b (hl _ (List.getElem_mem _))
    exact ⟨this.1, this.2, wStep_len _ _ _ c⟩
theorem wRun_ok (l : List Sp) (s : Sp) (hs : Bd s) (hl : ∀ x ∈ l, Bd x) : (∀ y ∈ (wRun l s).1, Bd y) ∧ Bd (wRun l s).2.1 ∧ (if (wRun l s).2.2 then (wRun l s).1.length else (wRun l s).1.length + 1) ≤ l.length + 1 := by
  have := wRun_okT l s hs hl l.length (Nat.le_refl _)
  rwa [List.take_of_length_le (Nat.le_refl _)] at this
theorem withS_len (l : List Sp) (s : Sp) (hs : Bd s) (hl : ∀ x ∈ l, Bd x) : (withS l s).length ≤ l.length + 1 := by
  have := (wRun_ok l s hs hl).2.2
  unfold withS
  split at this <;> rename_i h <;> simp [h] <;> omega
theorem withS_bd (l : List Sp) (s : Sp) (hs : Bd s) (hl : ∀ x ∈ l, Bd x) : ∀ y ∈ withS l s, Bd y := by
  have := wRun_ok l s hs hl
  unfold withS
  split
  · exact this.1
  · intro y hy; simp at hy; rcases hy with hy | hy; (exact this.1 y hy); (exact hy ▸ this.2.1)
end Go.Proofs.Ytdennlekjndfkaa
