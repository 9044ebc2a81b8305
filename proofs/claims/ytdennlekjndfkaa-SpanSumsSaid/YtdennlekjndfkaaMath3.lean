/- Plain mathematics, continued: canon keeps spans valid; shifts. -/
import Derived.Test.YtdennlekjndfkaaMath2
namespace Go.Proofs.Ytdennlekjndfkaa

theorem wStep_P (P : Sp → Prop) (hP : ∀ s x, P s → P x → P (min s.1 x.1, max s.2 x.2)) (st : List Sp × Sp × Bool) (x : Sp) (h1 : ∀ s ∈ st.1, P s) (h2 : P st.2.1) (hx : P x) : (∀ s ∈ (wStep st x).1, P s) ∧ P (wStep st x).2.1 := by
  obtain ⟨o, s, d⟩ := st
  unfold wStep
  dsimp only at *
  split
  · exact ⟨by intro y hy; simp at hy; rcases hy with hy | hy; (exact h1 y hy); (exact hy ▸ hx), h2⟩
  · split
    · refine ⟨?_, h2⟩
      cases d
      · intro y hy; simp at hy; rcases hy with hy | hy | hy; (exact h1 y hy); (exact hy ▸ h2); (exact hy ▸ hx)
      · intro y hy; simp at hy; rcases hy with hy | hy; (exact h1 y hy); (exact hy ▸ hx)
    · exact ⟨h1, hP s x h2 hx⟩
theorem wFold_P (P : Sp → Prop) (hP : ∀ s x, P s → P x → P (min s.1 x.1, max s.2 x.2)) (l : List Sp) : ∀ st : List Sp × Sp × Bool, (∀ s ∈ st.1, P s) → P st.2.1 → (∀ x ∈ l, P x) → (∀ s ∈ (l.foldl wStep st).1, P s) ∧ P (l.foldl wStep st).2.1 := by
  induction l with
  | nil => intro st h1 h2 _; exact ⟨h1, h2⟩
  | cons a l ih =>
    intro st h1 h2 hl
    have := wStep_P P hP st a h1 h2 (hl a (by simp))
    exact ih _ this.1 this.2 (fun x hx => hl x (by simp [hx]))
theorem withS_P (P : Sp → Prop) (hP : ∀ s x, P s → P x → P (min s.1 x.1, max s.2 x.2)) (l : List Sp) (s : Sp) (hs : P s) (hl : ∀ x ∈ l, P x) : ∀ y ∈ withS l s, P y := by
  have := wFold_P P hP l ([], s, false) (by simp) hs hl
  unfold withS wRun
  split
  · exact this.1
  · intro y hy; simp at hy; rcases hy with hy | hy; (exact this.1 y hy); (exact hy ▸ this.2)
theorem foldWith_P (P : Sp → Prop) (hP : ∀ s x, P s → P x → P (min s.1 x.1, max s.2 x.2)) (l : List Sp) : ∀ o : List Sp, (∀ x ∈ o, P x) → (∀ x ∈ l, P x) → ∀ y ∈ l.foldl withS o, P y := by
  induction l with
  | nil => intro o h _; exact h
  | cons a l ih =>
    intro o ho hl
    exact ih _ (withS_P P hP o a (hl a (by simp)) ho) (fun x hx => hl x (by simp [hx]))
theorem okSp_merge (s x : Sp) (h1 : okSp s = true) (h2 : okSp x = true) : okSp (min s.1 x.1, max s.2 x.2) = true := by
  rw [okSp_iff] at *; dsimp only; omega
theorem canon_okSp (l : List Sp) (h : ∀ x ∈ l, okSp x = true) : ∀ y ∈ canon l, okSp y = true :=
  foldWith_P (fun s => okSp s = true) okSp_merge l [] (by simp) h

def shOk (l : List Sp) (by_ : Int) : Bool := l.all fun s => okSp (s.1 + by_, s.2 + by_)
def shL (l : List Sp) (by_ : Int) : List Sp := l.map fun s => (s.1 + by_, s.2 + by_)
theorem shOk_take (l : List Sp) (b : Int) (k : Nat) (h : k < l.length) (h1 : shOk (l.take k) b = true) (h2 : okSp (l[k].1 + b, l[k].2 + b) = true) : shOk (l.take (k + 1)) b = true := by
  unfold shOk at *; rw [List.take_succ_eq_append_getElem h, List.all_append, h1]; simp [h2]
theorem shOk_no (l : List Sp) (b : Int) (k : Nat) (h : k < l.length) (h2 : okSp (l[k].1 + b, l[k].2 + b) = false) : shOk l b = false := by
  rw [← Bool.not_eq_true]
  intro hh
  have := List.all_eq_true.1 hh _ (List.getElem_mem h)
  rw [h2] at this; cases this
theorem shL_take (l : List Sp) (b : Int) (k : Nat) (h : k < l.length) : shL (l.take (k + 1)) b = shL (l.take k) b ++ [(l[k].1 + b, l[k].2 + b)] := by
  unfold shL; rw [List.take_succ_eq_append_getElem h, List.map_append]; rfl
def shiftE (l : List Sp) (b : Int) : Int := if errL l = 0 then (if shOk (canon l) b then 0 else 10) else errL l
def shiftS (l : List Sp) (b : Int) : List Sp := if errL l = 0 then (if shOk (canon l) b then shL (canon l) b else []) else []
theorem shift_ok {l : List Sp} {b : Int} (h : errL l = 0) (h2 : shOk (canon l) b = true) : shiftE l b = 0 ∧ shiftS l b = shL (canon l) b := by
  unfold shiftE shiftS; rw [if_pos h, if_pos h, if_pos h2, if_pos h2]; exact ⟨rfl, rfl⟩
theorem shift_bad {l : List Sp} {b : Int} (h : errL l = 0) (h2 : shOk (canon l) b = false) : shiftE l b = 10 ∧ shiftS l b = [] := by
  unfold shiftE shiftS; rw [if_pos h, if_pos h, h2]; exact ⟨rfl, rfl⟩
theorem shift_err {l : List Sp} {b : Int} (h : ¬ errL l = 0) : shiftE l b = errL l ∧ shiftS l b = [] := by
  unfold shiftE shiftS; rw [if_neg h, if_neg h]; exact ⟨rfl, rfl⟩
end Go.Proofs.Ytdennlekjndfkaa
