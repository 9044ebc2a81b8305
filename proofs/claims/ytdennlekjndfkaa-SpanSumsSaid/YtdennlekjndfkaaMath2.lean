/- Plain mathematics, continued: the tidy list of a set. -/
import Derived.Test.YtdennlekjndfkaaMath
namespace Go.Proofs.Ytdennlekjndfkaa
theorem canon_take (l : List Sp) (k : Nat) (h : k < l.length) : canon (l.take (k + 1)) = withS (canon (l.take k)) l[k] := by
  unfold canon; rw [List.take_succ_eq_append_getElem h, List.foldl_append]; rfl
theorem foldWith_ok (l : List Sp) : ∀ o : List Sp, (∀ x ∈ o, Bd x) → (∀ x ∈ l, Bd x) → (∀ y ∈ l.foldl withS o, Bd y) ∧ (l.foldl withS o).length ≤ o.length + l.length := by
  induction l with
  | nil => intro o h _; exact ⟨h, Nat.le_refl _⟩
  | cons a l ih =>
    intro o ho hl
    have h1 := withS_bd o a (hl a (by simp)) ho
    have h2 := withS_len o a (hl a (by simp)) ho
    have := ih (withS o a) h1 (fun x hx => hl x (by simp [hx]))
    refine ⟨this.1, Nat.le_trans this.2 ?_⟩
    simp only [List.length_cons]; omega
theorem canon_bd (l : List Sp) (h : ∀ x ∈ l, Bd x) : ∀ y ∈ canon l, Bd y := (foldWith_ok l [] (by simp) h).1
theorem canon_len (l : List Sp) (h : ∀ x ∈ l, Bd x) : (canon l).length ≤ l.length := by have := (foldWith_ok l [] (by simp) h).2; rw [List.length_nil, Nat.zero_add] at this; exact this

theorem errL_all {l : List Sp} (h : errL l = 0) : l.length ≤ 4096 ∧ ∀ x ∈ l, okSp x = true := by
  unfold errL at h
  split at h
  · omega
  · split at h
    · rename_i h1 h2; exact ⟨by omega, fun x hx => List.all_eq_true.1 h2 x hx⟩
    · omega
theorem errL_bd {l : List Sp} (h : errL l = 0) : ∀ x ∈ l, Bd x := fun x hx => Bd.ok ((errL_all h).2 x hx)
/-- The error of two lists. -/
def errLL (a b : List Sp) : Int := if errL a = 0 then errL b else errL a
theorem errLL_zero {a b : List Sp} (h : errLL a b = 0) : errL a = 0 ∧ errL b = 0 := by
  unfold errLL at h; split at h
  · exact ⟨by assumption, h⟩
  · contradiction
/-- A list, or nothing if it is too long. -/
def limS (l : List Sp) : List Sp := if 4096 < l.length then [] else l
def limE (l : List Sp) : Int := if 4096 < l.length then 2 else 0
def setS (l : List Sp) : List Sp := if errL l = 0 then canon l else []
def unionS (a b : List Sp) : List Sp := if errLL a b = 0 then limS (canon (a ++ b)) else []
def unionE (a b : List Sp) : Int := if errLL a b = 0 then limE (canon (a ++ b)) else errLL a b

/-! ### Meets and sums, as the reference forms them -/
def mStep (o : List Sp) (x y : Sp) : List Sp := if max x.1 y.1 ≤ min x.2 y.2 then withS o (max x.1 y.1, min x.2 y.2) else o
def mRow (b : List Sp) (o : List Sp) (x : Sp) : List Sp := b.foldl (fun o y => mStep o x y) o
def meetC (a b : List Sp) : List Sp := a.foldl (mRow b) []
theorem mRow_take (b o : List Sp) (x : Sp) (k : Nat) (h : k < b.length) : mRow (b.take (k + 1)) o x = mStep (mRow (b.take k) o x) x b[k] := by
  unfold mRow; rw [List.take_succ_eq_append_getElem h, List.foldl_append]; rfl
theorem meetC_take (a b : List Sp) (k : Nat) (h : k < a.length) : meetC (a.take (k + 1)) b = mRow b (meetC (a.take k) b) a[k] := by
  unfold meetC; rw [List.take_succ_eq_append_getElem h, List.foldl_append]; rfl
theorem Bd.meet {x y : Sp} (hx : Bd x) (hy : Bd y) : Bd (max x.1 y.1, min x.2 y.2) := by unfold Bd at *; dsimp only; omega
theorem mStep_ok (o : List Sp) (x y : Sp) (ho : ∀ s ∈ o, Bd s) (hx : Bd x) (hy : Bd y) : (∀ s ∈ mStep o x y, Bd s) ∧ (mStep o x y).length ≤ o.length + 1 := by
  unfold mStep
  split
  · exact ⟨withS_bd _ _ (hx.meet hy) ho, withS_len _ _ (hx.meet hy) ho⟩
  · exact ⟨ho, Nat.le_succ _⟩
theorem mRow_ok (x : Sp) (hx : Bd x) (b : List Sp) : ∀ o : List Sp, (∀ s ∈ o, Bd s) → (∀ y ∈ b, Bd y) → (∀ s ∈ mRow b o x, Bd s) ∧ (mRow b o x).length ≤ o.length + b.length := by
  induction b with
  | nil => intro o ho _; exact ⟨ho, Nat.le_refl _⟩
  | cons y b ih =>
    intro o ho hb
    have h1 := mStep_ok o x y ho hx (hb y (by simp))
    have h2 := ih (mStep o x y) h1.1 (fun z hz => hb z (by simp [hz]))
    exact ⟨h2.1, by have := h2.2; rw [List.length_cons]; show (mRow b (mStep o x y) x).length ≤ _; omega⟩
theorem meetFold_ok (b : List Sp) (hb : ∀ y ∈ b, Bd y) (a : List Sp) : ∀ o : List Sp, (∀ s ∈ o, Bd s) → (∀ x ∈ a, Bd x) → (∀ s ∈ a.foldl (mRow b) o, Bd s) ∧ (a.foldl (mRow b) o).length ≤ o.length + a.length * b.length := by
  induction a with
  | nil => intro o ho _; exact ⟨ho, by simp⟩
  | cons x a ih =>
    intro o ho ha
    have h1 := mRow_ok x (ha x (by simp)) b o ho hb
    have h2 := ih (mRow b o x) h1.1 (fun z hz => ha z (by simp [hz]))
    refine ⟨h2.1, ?_⟩
    have := h2.2
    rw [List.length_cons, Nat.succ_mul]
    show (a.foldl (mRow b) (mRow b o x)).length ≤ _
    omega
theorem meetC_ok (a b : List Sp) (ha : ∀ x ∈ a, Bd x) (hb : ∀ y ∈ b, Bd y) : (∀ s ∈ meetC a b, Bd s) ∧ (meetC a b).length ≤ a.length * b.length := by
  have := meetFold_ok b hb a [] (by simp) ha
  exact ⟨this.1, by have := this.2; rw [List.length_nil, Nat.zero_add] at this; exact this⟩
def meetS (a b : List Sp) : List Sp := if errLL a b = 0 then limS (meetC a b) else []
def meetE (a b : List Sp) : Int := if errLL a b = 0 then limE (meetC a b) else errLL a b

def sm (x y : Sp) : Sp := (x.1 + y.1, x.2 + y.2)
def aRow (b : List Sp) (o : List Sp) (x : Sp) : List Sp := b.foldl (fun o y => withS o (sm x y)) o
def addC (a b : List Sp) : List Sp := a.foldl (aRow b) []
def rowOk (b : List Sp) (x : Sp) : Bool := b.all fun y => okSp (sm x y)
def allOk (a b : List Sp) : Bool := a.all (rowOk b)
theorem aRow_take (b o : List Sp) (x : Sp) (k : Nat) (h : k < b.length) : aRow (b.take (k + 1)) o x = withS (aRow (b.take k) o x) (sm x b[k]) := by
  unfold aRow; rw [List.take_succ_eq_append_getElem h, List.foldl_append]; rfl
theorem addC_take (a b : List Sp) (k : Nat) (h : k < a.length) : addC (a.take (k + 1)) b = aRow b (addC (a.take k) b) a[k] := by
  unfold addC; rw [List.take_succ_eq_append_getElem h, List.foldl_append]; rfl
theorem rowOk_take (b : List Sp) (x : Sp) (k : Nat) (h : k < b.length) (h1 : rowOk (b.take k) x = true) (h2 : okSp (sm x b[k]) = true) : rowOk (b.take (k + 1)) x = true := by
  unfold rowOk at *; rw [List.take_succ_eq_append_getElem h, List.all_append, h1]; simp [h2]
theorem allOk_take (a b : List Sp) (k : Nat) (h : k < a.length) (h1 : allOk (a.take k) b = true) (h2 : rowOk b a[k] = true) : allOk (a.take (k + 1)) b = true := by
  unfold allOk at *; rw [List.take_succ_eq_append_getElem h, List.all_append, h1]; simp [h2]
theorem allOk_no (a b : List Sp) (k j : Nat) (h : k < a.length) (h' : j < b.length) (h2 : okSp (sm a[k] b[j]) = false) : allOk a b = false := by
  rw [← Bool.not_eq_true]
  intro hh
  have := List.all_eq_true.1 (List.all_eq_true.1 hh _ (List.getElem_mem h)) _ (List.getElem_mem h')
  rw [h2] at this; cases this
theorem aRow_ok (x : Sp) (b : List Sp) : ∀ o : List Sp, (∀ s ∈ o, Bd s) → rowOk b x = true → (∀ s ∈ aRow b o x, Bd s) ∧ (aRow b o x).length ≤ o.length + b.length := by
  induction b with
  | nil => intro o ho _; exact ⟨ho, Nat.le_refl _⟩
  | cons y b ih =>
    intro o ho hb
    unfold rowOk at hb
    rw [List.all_cons, Bool.and_eq_true] at hb
    have hy := Bd.ok hb.1
    have h2 := ih (withS o (sm x y)) (withS_bd _ _ hy ho) hb.2
    have h3 := withS_len o (sm x y) hy ho
    exact ⟨h2.1, by have := h2.2; rw [List.length_cons]; show (aRow b (withS o (sm x y)) x).length ≤ _; omega⟩
theorem addFold_ok (b : List Sp) (a : List Sp) : ∀ o : List Sp, (∀ s ∈ o, Bd s) → allOk a b = true → (∀ s ∈ a.foldl (aRow b) o, Bd s) ∧ (a.foldl (aRow b) o).length ≤ o.length + a.length * b.length := by
  induction a with
  | nil => intro o ho _; exact ⟨ho, by simp⟩
  | cons x a ih =>
    intro o ho ha
    unfold allOk at ha
    rw [List.all_cons, Bool.and_eq_true] at ha
    have h1 := aRow_ok x b o ho ha.1
    have h2 := ih (aRow b o x) h1.1 ha.2
    refine ⟨h2.1, ?_⟩
    have := h2.2
    rw [List.length_cons, Nat.succ_mul]
    show (a.foldl (aRow b) (aRow b o x)).length ≤ _
    omega
theorem addC_ok (a b : List Sp) (h : allOk a b = true) : (∀ s ∈ addC a b, Bd s) ∧ (addC a b).length ≤ a.length * b.length := by
  have := addFold_ok b a [] (by simp) h
  exact ⟨this.1, by have := this.2; rw [List.length_nil, Nat.zero_add] at this; exact this⟩
def addE (a b : List Sp) : Int := if errLL a b = 0 then (if 65536 < (canon a).length * (canon b).length then 2 else if allOk (canon a) (canon b) then limE (addC (canon a) (canon b)) else 10) else errLL a b
def addS (a b : List Sp) : List Sp := if errLL a b = 0 then (if 65536 < (canon a).length * (canon b).length then [] else if allOk (canon a) (canon b) then limS (addC (canon a) (canon b)) else []) else []
end Go.Proofs.Ytdennlekjndfkaa
