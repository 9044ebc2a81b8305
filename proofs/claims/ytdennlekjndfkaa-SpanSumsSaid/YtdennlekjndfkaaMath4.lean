/- Plain mathematics: neighbours that are equal are dropped. -/
import Derived.Test.YtdennlekjndfkaaMath
namespace Go.Proofs.Ytdennlekjndfkaa

def ddStep (o : List Sp) (x : Sp) : List Sp := if o.getLast? = some x then o else o ++ [x]
def ddS (l : List Sp) : List Sp := l.foldl ddStep []
theorem ddS_take (l : List Sp) (k : Nat) (h : k < l.length) : ddS (l.take (k + 1)) = ddStep (ddS (l.take k)) l[k] := by
  unfold ddS; rw [List.take_succ_eq_append_getElem h, List.foldl_append]; rfl
theorem ddStep_last (o : List Sp) (x : Sp) : (ddStep o x).getLast? = some x := by
  unfold ddStep; split
  · assumption
  · simp
theorem ddS_last (l : List Sp) (k : Nat) (h : k < l.length) : (ddS (l.take (k + 1))).getLast? = some l[k] := by
  rw [ddS_take l k h]; exact ddStep_last _ _
/-- The next element is another one: it is added. -/
theorem ddS_add (l : List Sp) (k : Nat) (h : k + 1 < l.length) (hne : l[k + 1] ≠ l[k]) : ddS (l.take (k + 1 + 1)) = ddS (l.take (k + 1)) ++ [l[k + 1]] := by
  rw [ddS_take l (k + 1) h]; unfold ddStep
  rw [ddS_last l k (by omega), if_neg]
  intro e; exact hne (Option.some.inj e).symm
theorem ddS_drop (l : List Sp) (k : Nat) (h : k + 1 < l.length) (he : l[k + 1] = l[k]) : ddS (l.take (k + 1 + 1)) = ddS (l.take (k + 1)) := by
  rw [ddS_take l (k + 1) h]; unfold ddStep
  rw [ddS_last l k (by omega), if_pos]
  rw [he]
theorem ddStep_len (o : List Sp) (x : Sp) : (ddStep o x).length ≤ o.length + 1 := by unfold ddStep; split <;> simp
theorem ddS_len_take (l : List Sp) : ∀ k, k ≤ l.length → (ddS (l.take k)).length ≤ k := by
  intro k
  induction k with
  | zero => intro _; simp [ddS]
  | succ k ih => intro h; rw [ddS_take l k (by omega)]; exact Nat.le_trans (ddStep_len _ _) (Nat.succ_le_succ (ih (by omega)))
theorem ddStep_mem (o : List Sp) (x y : Sp) : y ∈ ddStep o x ↔ y ∈ o ∨ y = x := by
  unfold ddStep; split
  · rename_i h
    constructor
    · exact .inl
    · rintro (h2 | rfl)
      · exact h2
      · exact List.mem_of_getLast? h
  · simp
theorem foldDd_mem (l : List Sp) (y : Sp) : ∀ o, y ∈ l.foldl ddStep o ↔ y ∈ o ∨ y ∈ l := by
  induction l with
  | nil => intro o; simp
  | cons a l ih => intro o; rw [List.foldl_cons, ih, ddStep_mem]; simp [or_assoc]
theorem ddS_mem (l : List Sp) (y : Sp) : y ∈ ddS l ↔ y ∈ l := by unfold ddS; rw [foldDd_mem]; simp
theorem foldDd_sub (R : Sp → Sp → Prop) (l : List Sp) : ∀ o, (o ++ l).Pairwise R → (l.foldl ddStep o).Pairwise R := by
  induction l with
  | nil => intro o h; simpa using h
  | cons a l ih =>
    intro o h
    rw [List.foldl_cons]
    apply ih
    unfold ddStep
    split
    · exact h.sublist (by simp)
    · simpa using h
theorem ddS_pairwise (R : Sp → Sp → Prop) (l : List Sp) (h : l.Pairwise R) : (ddS l).Pairwise R := foldDd_sub R l [] (by simpa using h)
theorem ddS_short (l : List Sp) (h : l.length < 2) : ddS l = l := by
  match l, h with
  | [], _ => rfl
  | [a], _ => rfl
theorem take_set_self (cur : List Sp) (k : Nat) (x : Sp) (h : k < cur.length) : (cur.set k x).take (k + 1) = cur.take k ++ [x] := by
  rw [List.take_succ_eq_append_getElem (by rw [List.length_set]; exact h), List.getElem_set_self, List.take_set_of_le (Nat.le_refl _)]
end Go.Proofs.Ytdennlekjndfkaa
