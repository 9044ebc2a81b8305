/- Plain mathematics: what common yields. -/
import Derived.Test.YtdennlekjndfkaaMath6
namespace Go.Proofs.Ytdennlekjndfkaa

def comN : Nat → List Sp → List Sp → List Sp
  | n + 1, x :: a, y :: b => (if max x.1 y.1 ≤ min x.2 y.2 then [(max x.1 y.1, min x.2 y.2)] else []) ++ (if x.2 < y.2 then comN n a (y :: b) else comN n (x :: a) b)
  | _, _, _ => []
def comL (a b : List Sp) : List Sp := comN (a.length + b.length) a b
theorem comN_nil1 (n : Nat) (b : List Sp) : comN n [] b = [] := by cases n <;> rfl
theorem comN_nil2 (n : Nat) (a : List Sp) : comN n a [] = [] := by cases n <;> cases a <;> rfl
theorem comL_nil1 (b : List Sp) : comL [] b = [] := comN_nil1 _ _
theorem comL_nil2 (a : List Sp) : comL a [] = [] := comN_nil2 _ _
theorem comN_eq : ∀ (n m : Nat) (a b : List Sp), a.length + b.length ≤ n → a.length + b.length ≤ m → comN n a b = comN m a b := by
  intro n
  induction n with
  | zero =>
    intro m a b h _
    obtain rfl : a = [] := List.length_eq_zero_iff.1 (by omega)
    rw [comN_nil1, comN_nil1]
  | succ n ih =>
    intro m a b h1 h2
    cases a with
    | nil => rw [comN_nil1, comN_nil1]
    | cons x a =>
      cases b with
      | nil => rw [comN_nil2, comN_nil2]
      | cons y b =>
        cases m with
        | zero => simp at h2
        | succ m =>
          simp at h1 h2
          unfold comN
          rw [ih m a (y :: b) (by simp; omega) (by simp; omega), ih m (x :: a) b (by simp; omega) (by simp; omega)]
theorem comL_cons (x y : Sp) (a b : List Sp) : comL (x :: a) (y :: b) = (if max x.1 y.1 ≤ min x.2 y.2 then [(max x.1 y.1, min x.2 y.2)] else []) ++ (if x.2 < y.2 then comL a (y :: b) else comL (x :: a) b) := by
  have e : (x :: a).length + (y :: b).length = (a.length + b.length + 1) + 1 := by simp; omega
  show comN _ _ _ = _
  rw [e]
  conv => lhs; unfold comN
  rw [comN_eq (a.length + b.length + 1) (a.length + (y :: b).length) a (y :: b) (by simp; omega) (Nat.le_refl _), comN_eq (a.length + b.length + 1) ((x :: a).length + b.length) (x :: a) b (by simp; omega) (Nat.le_refl _)]
  rfl
theorem comN_len : ∀ (n : Nat) (a b : List Sp), (comN n a b).length ≤ n := by
  intro n
  induction n with
  | zero => intro a b; cases a <;> simp [comN]
  | succ n ih =>
    intro a b
    cases a with
    | nil => simp [comN]
    | cons x a =>
      cases b with
      | nil => simp [comN]
      | cons y b =>
        unfold comN
        rw [List.length_append]
        have h1 := ih a (y :: b)
        have h2 := ih (x :: a) b
        split <;> split <;> simp <;> omega
theorem comL_len (a b : List Sp) : (comL a b).length ≤ a.length + b.length := comN_len _ _ _
theorem com_step (pre full : List Sp) (x y : Sp) (a b : List Sp) (h : pre ++ comL (x :: a) (y :: b) = full) :
    (max x.1 y.1 ≤ min x.2 y.2 → pre.length < full.length ∧ pre ++ [(max x.1 y.1, min x.2 y.2)] <+: full ∧ (x.2 < y.2 → pre ++ [(max x.1 y.1, min x.2 y.2)] ++ comL a (y :: b) = full) ∧ (¬ x.2 < y.2 → pre ++ [(max x.1 y.1, min x.2 y.2)] ++ comL (x :: a) b = full)) ∧
    (¬ max x.1 y.1 ≤ min x.2 y.2 → (x.2 < y.2 → pre ++ comL a (y :: b) = full) ∧ (¬ x.2 < y.2 → pre ++ comL (x :: a) b = full)) := by
  rw [comL_cons] at h
  constructor
  · intro g
    rw [if_pos g] at h
    refine ⟨by rw [← h]; simp, ⟨_, by rw [List.append_assoc]; exact h⟩, fun g2 => ?_, fun g2 => ?_⟩
    · rw [if_pos g2] at h; rw [List.append_assoc]; exact h
    · rw [if_neg g2] at h; rw [List.append_assoc]; exact h
  · intro g
    rw [if_neg g, List.nil_append] at h
    exact ⟨fun g2 => by rw [if_pos g2] at h; exact h, fun g2 => by rw [if_neg g2] at h; exact h⟩
end Go.Proofs.Ytdennlekjndfkaa
