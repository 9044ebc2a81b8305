/- Plain mathematics: tidy lists are determined by their times; both ways of making them agree. -/
import Derived.Test.YtdennlekjndfkaaMath3
import Derived.Test.YtdennlekjndfkaaMath4
import Derived.Test.YtdennlekjndfkaaMath5
namespace Go.Proofs.Ytdennlekjndfkaa

def mem (l : List Sp) (t : Int) : Prop := ∃ s ∈ l, s.1 ≤ t ∧ t ≤ s.2
def Pos (l : List Sp) : Prop := ∀ s ∈ l, s.1 ≤ s.2
def Gap (l : List Sp) : Prop := l.Pairwise fun a b => a.2 + 1 < b.1
def Tidy (l : List Sp) : Prop := Pos l ∧ Gap l
theorem mem_nil (t : Int) : ¬ mem [] t := by rintro ⟨s, h, _⟩; cases h
theorem mem_cons (x : Sp) (l : List Sp) (t : Int) : mem (x :: l) t ↔ (x.1 ≤ t ∧ t ≤ x.2) ∨ mem l t := by
  unfold mem; simp
theorem mem_append (a b : List Sp) (t : Int) : mem (a ++ b) t ↔ mem a t ∨ mem b t := by
  unfold mem
  constructor
  · rintro ⟨s, h, h2⟩
    rcases List.mem_append.1 h with h | h
    · exact .inl ⟨s, h, h2⟩
    · exact .inr ⟨s, h, h2⟩
  · rintro (⟨s, h, h2⟩ | ⟨s, h, h2⟩)
    · exact ⟨s, List.mem_append.2 (.inl h), h2⟩
    · exact ⟨s, List.mem_append.2 (.inr h), h2⟩
theorem mem_inS (l : List Sp) (t : Int) : inS l t = true ↔ mem l t := by
  unfold inS mem; rw [List.any_eq_true]; simp
theorem Pos.cons {x : Sp} {l : List Sp} (h : Pos (x :: l)) : x.1 ≤ x.2 ∧ Pos l := ⟨h x (by simp), fun s hs => h s (by simp [hs])⟩
theorem Gap.cons {x : Sp} {l : List Sp} (h : Gap (x :: l)) : (∀ y ∈ l, x.2 + 1 < y.1) ∧ Gap l := List.pairwise_cons.1 h
theorem tidy_nil : Tidy [] := ⟨fun s h => (by cases h), List.Pairwise.nil⟩
theorem tidy_cons {x : Sp} {l : List Sp} : Tidy (x :: l) ↔ x.1 ≤ x.2 ∧ (∀ y ∈ l, x.2 + 1 < y.1) ∧ Tidy l := by
  constructor
  · rintro ⟨h1, h2⟩; exact ⟨h1.cons.1, h2.cons.1, h1.cons.2, h2.cons.2⟩
  · rintro ⟨h1, h2, h3, h4⟩
    refine ⟨fun s hs => ?_, List.pairwise_cons.2 ⟨h2, h4⟩⟩
    rcases List.mem_cons.1 hs with e | e
    · rw [e]; exact h1
    · exact h3 s e
/-- All times of the tail are beyond the head. -/
theorem tidy_tail {x : Sp} {l : List Sp} (h : Tidy (x :: l)) {t : Int} (ht : mem l t) : x.2 + 1 < t := by
  obtain ⟨s, hs, h1, _⟩ := ht
  have := (tidy_cons.1 h).2.1 s hs
  omega
theorem tidy_unique : ∀ (a b : List Sp), Tidy a → Tidy b → (∀ t, mem a t ↔ mem b t) → a = b := by
  intro a
  induction a with
  | nil =>
    intro b _ hb h
    cases b with
    | nil => rfl
    | cons y b => exact absurd ((h y.1).2 ((mem_cons _ _ _).2 (.inl ⟨Int.le_refl _, (tidy_cons.1 hb).1⟩))) (mem_nil _)
  | cons x a ih =>
    intro b ha hb h
    cases b with
    | nil => exact absurd ((h x.1).1 ((mem_cons _ _ _).2 (.inl ⟨Int.le_refl _, (tidy_cons.1 ha).1⟩))) (mem_nil _)
    | cons y b =>
      have hx := (tidy_cons.1 ha).1
      have hy := (tidy_cons.1 hb).1
      have m1 : y.1 ≤ x.1 := by
        rcases (mem_cons _ _ _).1 ((h x.1).1 ((mem_cons _ _ _).2 (.inl ⟨Int.le_refl _, hx⟩))) with h1 | h1
        · exact h1.1
        · have := tidy_tail hb h1; omega
      have m2 : x.1 ≤ y.1 := by
        rcases (mem_cons _ _ _).1 ((h y.1).2 ((mem_cons _ _ _).2 (.inl ⟨Int.le_refl _, hy⟩))) with h1 | h1
        · exact h1.1
        · have := tidy_tail ha h1; omega
      have m3 : ¬ x.2 < y.2 := by
        intro hlt
        rcases (mem_cons _ _ _).1 ((h (x.2 + 1)).2 ((mem_cons _ _ _).2 (.inl ⟨by omega, by omega⟩))) with h1 | h1
        · omega
        · have := tidy_tail ha h1; omega
      have m4 : ¬ y.2 < x.2 := by
        intro hlt
        rcases (mem_cons _ _ _).1 ((h (y.2 + 1)).1 ((mem_cons _ _ _).2 (.inl ⟨by omega, by omega⟩))) with h1 | h1
        · omega
        · have := tidy_tail hb h1; omega
      have e : x = y := Prod.ext (by omega) (by omega)
      subst e
      rw [ih b (tidy_cons.1 ha).2.2 (tidy_cons.1 hb).2.2 fun t => ?_]
      constructor
      · intro ht
        have h0 := tidy_tail ha ht
        rcases (mem_cons _ _ _).1 ((h t).1 ((mem_cons _ _ _).2 (.inr ht))) with h1 | h1
        · omega
        · exact h1
      · intro ht
        have h0 := tidy_tail hb ht
        rcases (mem_cons _ _ _).1 ((h t).2 ((mem_cons _ _ _).2 (.inr ht))) with h1 | h1
        · omega
        · exact h1

/-! ### The reference's way -/
def insR : List Sp → Sp → List Sp
  | [], s => [s]
  | x :: r, s => if x.2 + 1 < s.1 then x :: insR r s else if s.2 + 1 < x.1 then s :: x :: r else insR r (min s.1 x.1, max s.2 x.2)
theorem fold_done (l : List Sp) : ∀ (o : List Sp) (s : Sp), s.1 ≤ s.2 → Pos l → (∀ y ∈ l, s.2 + 1 < y.1) → l.foldl wStep (o, s, true) = (o ++ l, s, true) := by
  induction l with
  | nil => intro o s _ _ _; simp
  | cons x l ih =>
    intro o s hs hp h
    have hx := h x (by simp)
    have hxp := hp.cons.1
    have e : wStep (o, s, true) x = (o ++ [x], s, true) := by unfold wStep; dsimp only; rw [if_neg (by omega), if_pos hx]; rfl
    rw [List.foldl_cons, e, ih _ _ hs hp.cons.2 (fun y hy => h y (by simp [hy]))]
    simp
theorem fold_ins (l : List Sp) : ∀ (o : List Sp) (s : Sp), s.1 ≤ s.2 → Tidy l → (if (l.foldl wStep (o, s, false)).2.2 then (l.foldl wStep (o, s, false)).1 else (l.foldl wStep (o, s, false)).1 ++ [(l.foldl wStep (o, s, false)).2.1]) = o ++ insR l s := by
  induction l with
  | nil => intro o s _ _; simp [insR]
  | cons x l ih =>
    intro o s hs ht
    obtain ⟨hx, hxl, htl⟩ := tidy_cons.1 ht
    rw [List.foldl_cons]
    unfold insR
    by_cases g1 : x.2 + 1 < s.1
    · have e : wStep (o, s, false) x = (o ++ [x], s, false) := by unfold wStep; dsimp only; rw [if_pos g1]
      rw [e, ih _ _ hs htl, if_pos g1]; simp
    · by_cases g2 : s.2 + 1 < x.1
      · have e : wStep (o, s, false) x = (o ++ [s] ++ [x], s, true) := by unfold wStep; dsimp only; rw [if_neg g1, if_pos g2]; rfl
        rw [e, fold_done l _ _ hs htl.1 (fun y hy => by have := hxl y hy; omega), if_neg g1, if_pos g2]; simp
      · have e : wStep (o, s, false) x = (o, (min s.1 x.1, max s.2 x.2), false) := by unfold wStep; dsimp only; rw [if_neg g1, if_neg g2]
        rw [e, ih _ _ (by dsimp only; omega) htl, if_neg g1, if_neg g2]
theorem withS_ins (l : List Sp) (s : Sp) (hs : s.1 ≤ s.2) (hl : Tidy l) : withS l s = insR l s := by
  have := fold_ins l [] s hs hl
  rw [List.nil_append] at this
  exact this
theorem insR_mem (l : List Sp) : ∀ (s : Sp), s.1 ≤ s.2 → Tidy l → ∀ t, mem (insR l s) t ↔ mem l t ∨ (s.1 ≤ t ∧ t ≤ s.2) := by
  induction l with
  | nil => intro s _ _ t; unfold insR; rw [mem_cons]; exact ⟨fun h => h.elim .inr (fun h => absurd h (mem_nil _)), fun h => h.elim (fun h => absurd h (mem_nil _)) .inl⟩
  | cons x l ih =>
    intro s hs ht t
    obtain ⟨hx, hxl, htl⟩ := tidy_cons.1 ht
    unfold insR
    by_cases g1 : x.2 + 1 < s.1
    · rw [if_pos g1, mem_cons, ih s hs htl, mem_cons, or_assoc]
    · by_cases g2 : s.2 + 1 < x.1
      · rw [if_neg g1, if_pos g2, mem_cons, or_comm]
      · rw [if_neg g1, if_neg g2, ih _ (by dsimp only; omega) htl, mem_cons]
        dsimp only
        constructor
        · rintro (h | h)
          · exact .inl (.inr h)
          · by_cases h3 : s.1 ≤ t ∧ t ≤ s.2
            · exact .inr h3
            · exact .inl (.inl (by omega))
        · rintro ((h | h) | h)
          · exact .inr (by omega)
          · exact .inl h
          · exact .inr (by omega)
theorem insR_tidy (l : List Sp) : ∀ (s : Sp), s.1 ≤ s.2 → Tidy l → Tidy (insR l s) ∧ ∀ b, b < s.1 → (∀ y ∈ l, b < y.1) → ∀ y ∈ insR l s, b < y.1 := by
  induction l with
  | nil =>
    intro s hs _
    refine ⟨tidy_cons.2 ⟨hs, fun y hy => (by cases hy), tidy_nil⟩, fun b hb _ y hy => ?_⟩
    rw [insR, List.mem_singleton] at hy; rw [hy]; exact hb
  | cons x l ih =>
    intro s hs ht
    obtain ⟨hx, hxl, htl⟩ := tidy_cons.1 ht
    unfold insR
    by_cases g1 : x.2 + 1 < s.1
    · rw [if_pos g1]
      have := ih s hs htl
      refine ⟨tidy_cons.2 ⟨hx, this.2 _ g1 hxl, this.1⟩, fun b hb hl y hy => ?_⟩
      rcases List.mem_cons.1 hy with e | e
      · rw [e]; exact hl x (by simp)
      · exact this.2 b hb (fun z hz => hl z (by simp [hz])) y e
    · by_cases g2 : s.2 + 1 < x.1
      · rw [if_neg g1, if_pos g2]
        refine ⟨tidy_cons.2 ⟨hs, fun y hy => ?_, ht⟩, fun b hb hl y hy => ?_⟩
        · rcases List.mem_cons.1 hy with e | e
          · rw [e]; exact g2
          · have := hxl y e; omega
        · rcases List.mem_cons.1 hy with e | e
          · rw [e]; exact hb
          · exact hl y e
      · rw [if_neg g1, if_neg g2]
        have := ih (min s.1 x.1, max s.2 x.2) (by dsimp only; omega) htl
        refine ⟨this.1, fun b hb hl y hy => this.2 b ?_ (fun z hz => hl z (by simp [hz])) y hy⟩
        have := hl x (by simp)
        dsimp only; omega
theorem withS_tidy (l : List Sp) (s : Sp) (hs : s.1 ≤ s.2) (hl : Tidy l) : Tidy (withS l s) ∧ ∀ t, mem (withS l s) t ↔ mem l t ∨ (s.1 ≤ t ∧ t ≤ s.2) := by
  rw [withS_ins l s hs hl]; exact ⟨(insR_tidy l s hs hl).1, insR_mem l s hs hl⟩
theorem foldWith_tidy (l : List Sp) : ∀ o, Tidy o → Pos l → Tidy (l.foldl withS o) ∧ ∀ t, mem (l.foldl withS o) t ↔ mem o t ∨ mem l t := by
  induction l with
  | nil => intro o h _; exact ⟨h, fun t => ⟨.inl, fun h => h.elim id (fun h => absurd h (mem_nil _))⟩⟩
  | cons a l ih =>
    intro o ho hp
    have h1 := withS_tidy o a hp.cons.1 ho
    have h2 := ih _ h1.1 hp.cons.2
    exact ⟨h2.1, fun t => by rw [List.foldl_cons, h2.2, h1.2, mem_cons, or_assoc]⟩
theorem canon_tidy (l : List Sp) (hp : Pos l) : Tidy (canon l) ∧ ∀ t, mem (canon l) t ↔ mem l t := by
  have := foldWith_tidy l [] tidy_nil hp
  exact ⟨this.1, fun t => by rw [show canon l = l.foldl withS [] from rfl, this.2]; exact ⟨fun h => h.elim (fun h => absurd h (mem_nil _)) id, .inr⟩⟩
/-- A tidy list of these times is the one. -/
theorem canon_eq {l x : List Sp} (hp : Pos l) (hx : Tidy x) (h : ∀ t, mem x t ↔ mem l t) : x = canon l :=
  tidy_unique _ _ hx (canon_tidy l hp).1 fun t => by rw [h, (canon_tidy l hp).2]

/-! ### The program's way -/
def Asc (l : List Sp) : Prop := l.Pairwise fun a b => a.1 ≤ b.1
theorem run_spec (l : List Sp) : ∀ (s : Sp), s.1 ≤ s.2 → Pos l → Asc (s :: l) → (run s l).1.1 = s.1 ∧ (run s l).1.1 ≤ (run s l).1.2 ∧ (∃ p, l = p ++ (run s l).2) ∧ (∀ y ∈ (run s l).2, (run s l).1.2 + 1 < y.1) ∧
    ∀ t, ((run s l).1.1 ≤ t ∧ t ≤ (run s l).1.2) ∨ mem (run s l).2 t ↔ (s.1 ≤ t ∧ t ≤ s.2) ∨ mem l t := by
  induction l with
  | nil => intro s hs _ _; exact ⟨rfl, hs, ⟨[], rfl⟩, fun y hy => (by cases hy), fun t => Iff.rfl⟩
  | cons x r ih =>
    intro s hs hp ha
    have ha1 := List.pairwise_cons.1 ha
    have ha2 := List.pairwise_cons.1 ha1.2
    have hsx := ha1.1 x (by simp)
    have hx := hp.cons.1
    by_cases g : x.1 ≤ s.2 + 1
    · rw [run_go s x r g]
      have := ih (s.1, max s.2 x.2) (by dsimp only; omega) hp.cons.2 (List.pairwise_cons.2 ⟨fun y hy => ha1.1 y (by simp [hy]), ha2.2⟩)
      obtain ⟨h1, h2, ⟨p, h3⟩, h4, h5⟩ := this
      refine ⟨h1, h2, ⟨x :: p, by rw [List.cons_append, ← h3]⟩, h4, fun t => ?_⟩
      rw [h5, mem_cons]
      dsimp only
      constructor
      · rintro (h | h)
        · by_cases h3 : s.1 ≤ t ∧ t ≤ s.2
          · exact .inl h3
          · exact .inr (.inl (by omega))
        · exact .inr (.inr h)
      · rintro (h | h | h)
        · exact .inl (by omega)
        · exact .inl (by omega)
        · exact .inr h
    · rw [run_stop s x r g]
      refine ⟨rfl, hs, ⟨[], rfl⟩, fun y hy => ?_, fun t => Iff.rfl⟩
      rcases List.mem_cons.1 hy with e | e
      · rw [e]; show s.2 + 1 < x.1; omega
      · have := ha2.1 y e; show s.2 + 1 < y.1; omega
theorem mergeL_spec : ∀ (n : Nat) (l : List Sp), l.length ≤ n → Pos l → Asc l → Tidy (mergeL l) ∧ (∀ t, mem (mergeL l) t ↔ mem l t) ∧ ∀ b, (∀ y ∈ l, b < y.1) → ∀ y ∈ mergeL l, b < y.1 := by
  intro n
  induction n with
  | zero =>
    intro l h _ _
    obtain rfl : l = [] := List.length_eq_zero_iff.1 (by omega)
    exact ⟨tidy_nil, fun t => Iff.rfl, fun b _ y hy => (by rw [mergeL_nil] at hy; cases hy)⟩
  | succ n ih =>
    intro l h hp ha
    cases l with
    | nil => exact ⟨tidy_nil, fun t => Iff.rfl, fun b _ y hy => (by rw [mergeL_nil] at hy; cases hy)⟩
    | cons x r =>
      obtain ⟨h1, h2, ⟨p, h3⟩, h4, h5⟩ := run_spec r x hp.cons.1 hp.cons.2 ha
      have hlen : (run x r).2.length ≤ n := by have := run_len r x; simp at h; omega
      have hsub : (run x r).2.Sublist r := by
        have h6 : (run x r).2.Sublist (p ++ (run x r).2) := List.sublist_append_right _ _
        rwa [← h3] at h6
      have hp2 : Pos (run x r).2 := fun s hs => hp.cons.2 s (hsub.subset hs)
      have ha2 : Asc (run x r).2 := (List.pairwise_cons.1 ha).2.sublist hsub
      obtain ⟨i1, i2, i3⟩ := ih (run x r).2 hlen hp2 ha2
      rw [mergeL_cons]
      refine ⟨tidy_cons.2 ⟨h2, i3 _ h4, i1⟩, fun t => ?_, fun b hb y hy => ?_⟩
      · rw [mem_cons, i2, h5, mem_cons]
      · rcases List.mem_cons.1 hy with e | e
        · rw [e, h1]; exact hb x (by simp)
        · exact i3 b (fun z hz => hb z (List.mem_cons_of_mem _ (hsub.subset hz))) y e
end Go.Proofs.Ytdennlekjndfkaa
