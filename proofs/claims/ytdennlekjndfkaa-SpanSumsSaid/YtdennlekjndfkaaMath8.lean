/- Plain mathematics: common of tidy lists is their meet. -/
import Derived.Test.YtdennlekjndfkaaMath7
namespace Go.Proofs.Ytdennlekjndfkaa

theorem comL_lo : ∀ (n : Nat) (a b : List Sp), a.length + b.length ≤ n → ∀ c : Int, ((∀ y ∈ a, c < y.1) ∨ (∀ y ∈ b, c < y.1)) → ∀ z ∈ comL a b, c < z.1 := by
  intro n
  induction n with
  | zero =>
    intro a b h c _ z hz
    obtain rfl : a = [] := List.length_eq_zero_iff.1 (by omega)
    rw [comL_nil1] at hz; cases hz
  | succ n ih =>
    intro a b h c hc z hz
    cases a with
    | nil => rw [comL_nil1] at hz; cases hz
    | cons x a =>
      cases b with
      | nil => rw [comL_nil2] at hz; cases hz
      | cons y b =>
        simp at h
        rw [comL_cons] at hz
        rcases List.mem_append.1 hz with hz | hz
        · split at hz
          · simp at hz
            subst hz
            show c < max x.1 y.1
            rcases hc with hc | hc
            · have := hc x (by simp); omega
            · have := hc y (by simp); omega
          · cases hz
        · split at hz
          · refine ih a (y :: b) (by simp; omega) c ?_ z hz
            rcases hc with hc | hc
            · exact .inl fun w hw => hc w (by simp [hw])
            · exact .inr hc
          · refine ih (x :: a) b (by simp; omega) c ?_ z hz
            rcases hc with hc | hc
            · exact .inl hc
            · exact .inr fun w hw => hc w (by simp [hw])

theorem comL_spec : ∀ (n : Nat) (a b : List Sp), a.length + b.length ≤ n → Tidy a → Tidy b → Tidy (comL a b) ∧ ∀ t, mem (comL a b) t ↔ mem a t ∧ mem b t := by
  intro n
  induction n with
  | zero =>
    intro a b h _ _
    obtain rfl : a = [] := List.length_eq_zero_iff.1 (by omega)
    rw [comL_nil1]
    exact ⟨tidy_nil, fun t => ⟨fun h => absurd h (mem_nil t), fun h => absurd h.1 (mem_nil t)⟩⟩
  | succ n ih =>
    intro a b h ha hb
    cases a with
    | nil => rw [comL_nil1]; exact ⟨tidy_nil, fun t => ⟨fun h => absurd h (mem_nil t), fun h => absurd h.1 (mem_nil t)⟩⟩
    | cons x a =>
      cases b with
      | nil => rw [comL_nil2]; exact ⟨tidy_nil, fun t => ⟨fun h => absurd h (mem_nil t), fun h => absurd h.2 (mem_nil t)⟩⟩
      | cons y b =>
        simp at h
        have ha' := (tidy_cons.1 ha)
        have hb' := (tidy_cons.1 hb)
        rw [comL_cons]
        by_cases g : x.2 < y.2
        · rw [if_pos g]
          obtain ⟨i1, i2⟩ := ih a (y :: b) (by simp; omega) ha'.2.2 hb
          have hlo := comL_lo _ a (y :: b) (Nat.le_refl _) (x.2 + 1) (.inl ha'.2.1)
          have key : ∀ t, (max x.1 y.1 ≤ t ∧ t ≤ min x.2 y.2) ∨ (mem a t ∧ mem (y :: b) t) ↔ mem (x :: a) t ∧ mem (y :: b) t := by
            intro t
            constructor
            · rintro (h1 | ⟨h1, h2⟩)
              · exact ⟨(mem_cons _ _ _).2 (.inl (by omega)), (mem_cons _ _ _).2 (.inl (by omega))⟩
              · exact ⟨(mem_cons _ _ _).2 (.inr h1), h2⟩
            · rintro ⟨h1, h2⟩
              rcases (mem_cons _ _ _).1 h1 with h1 | h1
              · rcases (mem_cons _ _ _).1 h2 with h2 | h2
                · exact .inl (by omega)
                · have := tidy_tail hb h2; omega
              · exact .inr ⟨h1, h2⟩
          by_cases g2 : max x.1 y.1 ≤ min x.2 y.2
          · rw [if_pos g2]
            refine ⟨tidy_cons.2 ⟨g2, fun z hz => ?_, i1⟩, fun t => ?_⟩
            · have := hlo z hz; show min x.2 y.2 + 1 < z.1; omega
            · rw [← key]; show mem ((max x.1 y.1, min x.2 y.2) :: comL a (y :: b)) t ↔ _
              rw [mem_cons, i2]
          · rw [if_neg g2]
            refine ⟨i1, fun t => ?_⟩
            show mem (comL a (y :: b)) t ↔ _
            rw [← key, i2]
            exact ⟨.inr, fun h => h.elim (fun h => by omega) id⟩
        · rw [if_neg g]
          obtain ⟨i1, i2⟩ := ih (x :: a) b (by simp; omega) ha hb'.2.2
          have hlo := comL_lo _ (x :: a) b (Nat.le_refl _) (y.2 + 1) (.inr hb'.2.1)
          have key : ∀ t, (max x.1 y.1 ≤ t ∧ t ≤ min x.2 y.2) ∨ (mem (x :: a) t ∧ mem b t) ↔ mem (x :: a) t ∧ mem (y :: b) t := by
            intro t
            constructor
            · rintro (h1 | ⟨h1, h2⟩)
              · exact ⟨(mem_cons _ _ _).2 (.inl (by omega)), (mem_cons _ _ _).2 (.inl (by omega))⟩
              · exact ⟨h1, (mem_cons _ _ _).2 (.inr h2)⟩
            · rintro ⟨h1, h2⟩
              rcases (mem_cons _ _ _).1 h2 with h2 | h2
              · rcases (mem_cons _ _ _).1 h1 with h1 | h1
                · exact .inl (by omega)
                · have := tidy_tail ha h1; omega
              · exact .inr ⟨h1, h2⟩
          by_cases g2 : max x.1 y.1 ≤ min x.2 y.2
          · rw [if_pos g2]
            refine ⟨tidy_cons.2 ⟨g2, fun z hz => ?_, i1⟩, fun t => ?_⟩
            · have := hlo z hz; show min x.2 y.2 + 1 < z.1; omega
            · rw [← key]; show mem ((max x.1 y.1, min x.2 y.2) :: comL (x :: a) b) t ↔ _
              rw [mem_cons, i2]
          · rw [if_neg g2]
            refine ⟨i1, fun t => ?_⟩
            show mem (comL (x :: a) b) t ↔ _
            rw [← key, i2]
            exact ⟨.inr, fun h => h.elim (fun h => by omega) id⟩

theorem mStep_tidy (o : List Sp) (x y : Sp) (ho : Tidy o) : Tidy (mStep o x y) ∧ ∀ t, mem (mStep o x y) t ↔ mem o t ∨ ((x.1 ≤ t ∧ t ≤ x.2) ∧ (y.1 ≤ t ∧ t ≤ y.2)) := by
  unfold mStep
  split
  · next h =>
    obtain ⟨h1, h2⟩ := withS_tidy o (max x.1 y.1, min x.2 y.2) h ho
    refine ⟨h1, fun t => ?_⟩
    rw [h2]
    exact ⟨fun h => h.elim .inl fun h => .inr (by simp only at h; omega), fun h => h.elim .inl fun h => .inr (by simp only; omega)⟩
  · next h => exact ⟨ho, fun t => ⟨.inl, fun h2 => h2.elim id fun h2 => by omega⟩⟩
theorem mRow_tidy (x : Sp) (b : List Sp) : ∀ o, Tidy o → Tidy (mRow b o x) ∧ ∀ t, mem (mRow b o x) t ↔ mem o t ∨ ((x.1 ≤ t ∧ t ≤ x.2) ∧ mem b t) := by
  induction b with
  | nil => exact fun o ho => ⟨ho, fun t => ⟨.inl, fun h => h.elim id fun h => absurd h.2 (mem_nil t)⟩⟩
  | cons y b ih =>
    intro o ho
    obtain ⟨h1, h2⟩ := mStep_tidy o x y ho
    obtain ⟨h3, h4⟩ := ih _ h1
    refine ⟨h3, fun t => (h4 t).trans ?_⟩
    rw [h2, mem_cons]
    constructor
    · rintro ((h | h) | h)
      · exact .inl h
      · exact .inr ⟨h.1, .inl h.2⟩
      · exact .inr ⟨h.1, .inr h.2⟩
    · rintro (h | ⟨h, h' | h'⟩)
      · exact .inl (.inl h)
      · exact .inl (.inr ⟨h, h'⟩)
      · exact .inr ⟨h, h'⟩
theorem meetFold_tidy (b : List Sp) (a : List Sp) : ∀ o, Tidy o → Tidy (a.foldl (mRow b) o) ∧ ∀ t, mem (a.foldl (mRow b) o) t ↔ mem o t ∨ (mem a t ∧ mem b t) := by
  induction a with
  | nil => exact fun o ho => ⟨ho, fun t => ⟨.inl, fun h => h.elim id fun h => absurd h.1 (mem_nil t)⟩⟩
  | cons x a ih =>
    intro o ho
    obtain ⟨h1, h2⟩ := mRow_tidy x b o ho
    obtain ⟨h3, h4⟩ := ih _ h1
    refine ⟨h3, fun t => (h4 t).trans ?_⟩
    rw [h2, mem_cons]
    constructor
    · rintro ((h | h) | h)
      · exact .inl h
      · exact .inr ⟨.inl h.1, h.2⟩
      · exact .inr ⟨.inr h.1, h.2⟩
    · rintro (h | ⟨h | h, h'⟩)
      · exact .inl (.inl h)
      · exact .inl (.inr ⟨h, h'⟩)
      · exact .inr ⟨h, h'⟩
theorem meetC_tidy (a b : List Sp) : Tidy (meetC a b) ∧ ∀ t, mem (meetC a b) t ↔ mem a t ∧ mem b t := by
  obtain ⟨h1, h2⟩ := meetFold_tidy b a [] tidy_nil
  exact ⟨h1, fun t => (h2 t).trans ⟨fun h => h.elim (fun h => absurd h (mem_nil t)) id, .inr⟩⟩
theorem comL_meet {a b : List Sp} (ha : Pos a) (hb : Pos b) : comL (canon a) (canon b) = meetC a b := by
  obtain ⟨h1, h2⟩ := canon_tidy a ha
  obtain ⟨h3, h4⟩ := canon_tidy b hb
  obtain ⟨h5, h6⟩ := comL_spec _ (canon a) (canon b) (Nat.le_refl _) h1 h3
  obtain ⟨h7, h8⟩ := meetC_tidy a b
  exact tidy_unique _ _ h5 h7 fun t => by rw [h6, h8, h2, h4]

theorem aRow_tidy (x : Sp) (hx : x.1 ≤ x.2) (b : List Sp) (hb : Pos b) : ∀ o, Tidy o → Tidy (aRow b o x) ∧ ∀ t, mem (aRow b o x) t ↔ mem o t ∨ mem (b.map (sm x)) t := by
  induction b with
  | nil => exact fun o ho => ⟨ho, fun t => ⟨.inl, fun h => h.elim id fun h => absurd h (mem_nil t)⟩⟩
  | cons y b ih =>
    intro o ho
    obtain ⟨hy, hb'⟩ := hb.cons
    obtain ⟨h1, h2⟩ := withS_tidy o (sm x y) (by show x.1 + y.1 ≤ x.2 + y.2; omega) ho
    obtain ⟨h3, h4⟩ := ih hb' _ h1
    refine ⟨h3, fun t => (h4 t).trans ?_⟩
    rw [h2, List.map_cons, mem_cons, or_assoc]
def sumsL (a b : List Sp) : List Sp := (a.map fun x => b.map (sm x)).flatten
theorem sumsL_cons (x : Sp) (a b : List Sp) : sumsL (x :: a) b = b.map (sm x) ++ sumsL a b := rfl
theorem sumsL_len (a b : List Sp) : (sumsL a b).length = a.length * b.length := by
  induction a with
  | nil => simp [sumsL]
  | cons x a ih => rw [sumsL_cons, List.length_append, ih, List.length_map, List.length_cons, Nat.succ_mul]; omega
theorem sumsL_mem {a b : List Sp} {z : Sp} : z ∈ sumsL a b ↔ ∃ x ∈ a, ∃ y ∈ b, sm x y = z := by
  unfold sumsL
  simp only [List.mem_flatten, List.mem_map]
  constructor
  · rintro ⟨l, ⟨x, hx, rfl⟩, hz⟩; obtain ⟨y, hy, rfl⟩ := List.mem_map.1 hz; exact ⟨x, hx, y, hy, rfl⟩
  · rintro ⟨x, hx, y, hy, rfl⟩; exact ⟨_, ⟨x, hx, rfl⟩, List.mem_map.2 ⟨y, hy, rfl⟩⟩
theorem addFold_tidy (b : List Sp) (hb : Pos b) (a : List Sp) (ha : Pos a) : ∀ o, Tidy o → Tidy (a.foldl (aRow b) o) ∧ ∀ t, mem (a.foldl (aRow b) o) t ↔ mem o t ∨ mem (sumsL a b) t := by
  induction a with
  | nil => exact fun o ho => ⟨ho, fun t => ⟨.inl, fun h => h.elim id fun h => absurd h (mem_nil t)⟩⟩
  | cons x a ih =>
    intro o ho
    obtain ⟨hx, ha'⟩ := ha.cons
    obtain ⟨h1, h2⟩ := aRow_tidy x hx b hb o ho
    obtain ⟨h3, h4⟩ := ih ha' _ h1
    refine ⟨h3, fun t => (h4 t).trans ?_⟩
    rw [h2, sumsL_cons, mem_append, or_assoc]
theorem sumsL_pos {a b : List Sp} (ha : Pos a) (hb : Pos b) : Pos (sumsL a b) := fun z hz => by
  obtain ⟨x, hx, y, hy, rfl⟩ := sumsL_mem.1 hz
  have := ha x hx
  have := hb y hy
  show x.1 + y.1 ≤ x.2 + y.2
  omega
theorem addC_canon {a b : List Sp} (ha : Pos a) (hb : Pos b) : addC a b = canon (sumsL a b) := by
  obtain ⟨h1, h2⟩ := addFold_tidy b hb a ha [] tidy_nil
  exact canon_eq (sumsL_pos ha hb) h1 fun t => (h2 t).trans ⟨fun h => h.elim (fun h => absurd h (mem_nil t)) id, .inr⟩
theorem allOk_sums (a b : List Sp) : allOk a b = (sumsL a b).all okSp := by
  rw [Bool.eq_iff_iff, List.all_eq_true]
  unfold allOk rowOk
  rw [List.all_eq_true]
  constructor
  · intro h z hz
    obtain ⟨x, hx, y, hy, rfl⟩ := sumsL_mem.1 hz
    exact List.all_eq_true.1 (h x hx) y hy
  · intro h x hx
    exact List.all_eq_true.2 fun y hy => h _ (sumsL_mem.2 ⟨x, hx, y, hy, rfl⟩)
end Go.Proofs.Ytdennlekjndfkaa
