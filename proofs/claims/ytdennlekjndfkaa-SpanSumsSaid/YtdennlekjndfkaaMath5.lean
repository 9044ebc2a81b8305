/- Plain mathematics: joining a sorted list. -/
import Derived.Test.YtdennlekjndfkaaMath
namespace Go.Proofs.Ytdennlekjndfkaa

/-- The span s, joined with those at the head of the list that touch it; what is left. -/
def run : Sp → List Sp → Sp × List Sp
  | s, [] => (s, [])
  | s, x :: r => if x.1 ≤ s.2 + 1 then run (s.1, max s.2 x.2) r else (s, x :: r)
theorem run_len (l : List Sp) : ∀ s, (run s l).2.length ≤ l.length := by
  induction l with
  | nil => intro s; simp [run]
  | cons x r ih => intro s; unfold run; split
                   · exact Nat.le_trans (ih _) (Nat.le_succ _)
                   · simp
def mergeN : Nat → List Sp → List Sp
  | 0, _ => []
  | _ + 1, [] => []
  | n + 1, x :: r => (run x r).1 :: mergeN n (run x r).2
/-- The spans of a sorted list, joined. -/
def mergeL (l : List Sp) : List Sp := mergeN l.length l
theorem mergeN_eq : ∀ (n m : Nat) (l : List Sp), l.length ≤ n → l.length ≤ m → mergeN n l = mergeN m l := by
  intro n
  induction n with
  | zero =>
    intro m l h _
    obtain rfl : l = [] := List.length_eq_zero_iff.1 (by omega)
    cases m <;> rfl
  | succ n ih =>
    intro m l h h2
    cases l with
    | nil => cases m <;> rfl
    | cons x r =>
      cases m with
      | zero => simp at h2
      | succ m =>
        have := run_len r x
        simp at h h2
        unfold mergeN
        rw [ih m _ (by omega) (by omega)]
theorem mergeL_nil : mergeL [] = [] := rfl
theorem mergeL_cons (x : Sp) (r : List Sp) : mergeL (x :: r) = (run x r).1 :: mergeL (run x r).2 := by
  show mergeN (r.length + 1) (x :: r) = _
  have := run_len r x
  show (run x r).1 :: mergeN r.length (run x r).2 = _
  rw [mergeN_eq _ _ _ this (Nat.le_refl _)]; rfl
theorem run_stop (s x : Sp) (r : List Sp) (h : ¬ x.1 ≤ s.2 + 1) : run s (x :: r) = (s, x :: r) := by unfold run; rw [if_neg h]
theorem run_go (s x : Sp) (r : List Sp) (h : x.1 ≤ s.2 + 1) : run s (x :: r) = run (s.1, max s.2 x.2) r := by
  conv => lhs; unfold run
  rw [if_pos h]
theorem mergeN_len : ∀ (n : Nat) (l : List Sp), (mergeN n l).length ≤ n := by
  intro n; induction n with
  | zero => intro l; simp [mergeN]
  | succ n ih => intro l; cases l with
    | nil => simp [mergeN]
    | cons x r => simp [mergeN]; exact ih _
theorem mergeL_len (l : List Sp) : (mergeL l).length ≤ l.length := mergeN_len _ _
theorem merge_step (pre full : List Sp) (x s : Sp) (r rest : List Sp) (h : pre ++ mergeL (x :: r) = full) (hr : run x r = run s rest) (hs : run s rest = (s, rest)) : pre ++ [s] ++ mergeL rest = full ∧ pre.length < full.length := by
  rw [mergeL_cons, hr, hs] at h
  constructor
  · rw [← h]; simp
  · rw [← h]; simp
end Go.Proofs.Ytdennlekjndfkaa
