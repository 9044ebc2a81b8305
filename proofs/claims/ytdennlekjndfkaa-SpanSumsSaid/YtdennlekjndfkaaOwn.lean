/- A slice of spans that the call itself has made: owned rows, and append. -/
import Derived.Test.YtdennlekjndfkaaBase
import Derived.WalkSmall
import Derived.Laws.AppendOwnNone
namespace Go.Proofs.Ytdennlekjndfkaa
open Go.RowKit

def flat (l : List Sp) : List Value := l.flatMap fun s => [.int .i64 s.1, .int .i64 s.2]
theorem flat_append (a b : List Sp) : flat (a ++ b) = flat a ++ flat b := by simp [flat]
theorem flat_one (s : Sp) : flat [s] = [.int .i64 s.1, .int .i64 s.2] := rfl
theorem flat_length (l : List Sp) : (flat l).length = l.length * 2 := by
  induction l with
  | nil => rfl
  | cons a l ih => rw [show a :: l = [a] ++ l from rfl, flat_append, List.length_append, ih, flat_one]; simp; omega
theorem flat_cons (a : Sp) (l : List Sp) : flat (a :: l) = .int .i64 a.1 :: .int .i64 a.2 :: flat l := rfl
theorem flat_get (l : List Sp) : ∀ (i : Nat) (h : i < l.length), (flat l)[i * 2]? = some (.int .i64 l[i].1) ∧ (flat l)[i * 2 + 1]? = some (.int .i64 l[i].2) := by
  induction l with
  | nil => intro i h; simp at h
  | cons a l ih =>
    intro i h
    cases i with
    | zero => simp [flat_cons]
    | succ i =>
      have := ih i (by simpa using h)
      rw [flat_cons, show (i + 1) * 2 = i * 2 + 1 + 1 by omega]
      simp only [List.getElem?_cons_succ]
      simpa using this

theorem Try.infoSp : (Try.prog.info? 23).map (fun i => (i.zero, i.size, i.bytes)) = some (some (.agg #[.int .i64 0, .int .i64 0]), 2, 16) := by kernel_rfl

/-- The slice v is the call's own (from block B on), and holds l. -/
def Own (w : World) (B : Nat) (v : Value) (l : List Sp) : Prop := w.ownsRow B 23 2 v l.length (flat l)
theorem Own.nil (w : World) (B : Nat) : Own w B (.slice none 0 0) [] := World.ownsRow_nil w B _ _
theorem Own.made (w : World) (B n : Nat) (hn : n = w.heap.size) (hB : B ≤ w.heap.size) : Own (w.alloc (.cells #[] 23)) B (.slice (some ⟨n, 0, none⟩) 0 0) [] := by
  subst hn; exact World.ownsRow_made w #[] 0 hB (by decide) (by simp)
theorem Own.alloc {w : World} {B : Nat} {v : Value} {l : List Sp} (h : Own w B v l) (o : Obj) : Own (w.alloc o) B v l := World.ownsRow.alloc h o
theorem Own.drewN {w : World} {B : Nat} {v : Value} {l : List Sp} (h : Own w B v l) (n : Nat) : Own (w.drewN n) B v l := by
  obtain ⟨h1, h2⟩ := h
  exact ⟨h1, h2.imp id fun ⟨g, cap, cur, a, b, c, d⟩ => ⟨g, cap, cur, a, b, c, d⟩⟩
theorem Own.below {w w' : World} {B n : Nat} {v : Value} {l : List Sp} (h : Own w B v l) (hb : Below n w w') (hn : w.heap.size ≤ n) : Own w' B v l := by
  obtain ⟨h1, h2⟩ := h
  refine ⟨h1, h2.imp id fun ⟨g, cap, cur, a, b, c, d⟩ => ⟨g, cap, cur, a, b, ?_, d⟩⟩
  rw [hb.block g (by have := (Array.getElem?_eq_some_iff.1 c).1; omega)]; exact c
theorem Own.set {w : World} {B : Nat} {v : Value} {l : List Sp} (h : Own w B v l) {a : Addr} (ha : a.block < B) (u : Value) : Own (w.setCell a u) B v l := ownsRow_setCell_below h ha u
theorem Own.mono {w : World} {B B' : Nat} {v : Value} {l : List Sp} (h : Own w B v l) (hB : B' ≤ B) : Own w B' v l :=
  ⟨h.1, h.2.imp id fun ⟨g, cap, cur, a, b, c, d⟩ => ⟨g, cap, cur, a, by omega, c, d⟩⟩

/-- What an owned row is as a value, and that it reads as the list. -/
theorem Own.reads {w : World} {B : Nat} {v : Value} {l : List Sp} (h : Own w B v l) (hf : ∀ s ∈ l, FitSp s) (hl : l.length ≤ 8796093022207) :
    ∃ p cap, v = .slice p l.length cap ∧ SpAt w B p l ∧ (∀ a, p = some a → B ≤ a.block ∧ ∀ o, w.frozen? ⟨a.block, o, none⟩ = false) ∧ (p = none → cap = 0) ∧ l.length ≤ cap ∧ cap ≤ 9223372036854775807 := by
  obtain ⟨h1, ⟨hv, hn⟩ | ⟨g, cap, cur, hv, hB, hg, hc, hm, hs, ht⟩⟩ := h
  · obtain rfl : l = [] := List.length_eq_zero_iff.1 hn
    exact ⟨none, 0, hv, SpAt.nil, (fun a ha => by cases ha), (fun _ => rfl), Nat.le_refl _, by decide⟩
  · refine ⟨_, cap, hv, ⟨hf, hl, fun _ => ⟨g, 0, rfl, hB, (Array.getElem?_eq_some_iff.1 hg).1, fun i hi => ?_⟩⟩, ?_, (fun h => by cases h), hc, by unfold maxLen at hm; omega⟩
    · have hfl := flat_get l i hi
      rw [← ht] at hfl
      have key : ∀ j u, (cur.toList.take (l.length * 2))[j]? = some u → w.cell? ⟨g, j, none⟩ = some u := by
        intro j u hu
        rw [cell_of_row w g j cur _ (0, 0) hg]
        rw [List.getElem?_take] at hu
        split at hu
        · simpa using hu
        · cases hu
      rw [Nat.zero_add]
      exact ⟨key _ _ hfl.1, key _ _ hfl.2⟩
    · rintro a ⟨⟩
      exact ⟨hB, fun o => by simp [World.frozen?, hg]⟩

/-- append(out, s): the span lies in a new block of its own. -/
theorem wpList_app {ops : Array Oper} {rest : List Oper} {o : Oper} {a : Act} {w : World} {Q : Exit → Act → World → Prop} (hgd : o.guard = none) (s x : Operand)
    (ho : o.op = .call { callee := .builtin .append, args := #[s, x], argTypes := #[24, 24] })
    (B : Nat) (v : Value) (l : List Sp) (hown : Own w B v l) (hs : a.eval s = v) (sp : Sp) (c : Nat) (hx : a.eval x = .slice (some ⟨w.heap.size, 0, none⟩) 1 c)
    (hn : l.length < 8796093022207) (hB : B ≤ w.heap.size)
    (h : ∀ v' w', Own w' B v' (l ++ [sp]) → Below B w w' → w.heap.size < w'.heap.size → (∃ g cap, v' = .slice (some ⟨g, 0, none⟩) (l.length + 1) cap) → wpList Try.prog ops Q rest (a.put o.dst v') w') :
    wpList Try.prog ops Q (o :: rest) a (w.alloc (.cells #[.int .i64 sp.1, .int .i64 sp.2] 23)) := by
  obtain ⟨i0, hi, hz0, hz1, hz2⟩ := info_parts Try.infoSp
  refine wpList_append_own _ hgd s x 24 ho B 23 i0 _ 2 16 Try.underlying24 hi hz0 hz1 hz2 rfl (by decide) v l.length (flat l) hs (hown.alloc _) ⟨w.heap.size, 0, none⟩ 1 c [.int .i64 sp.1, .int .i64 sp.2] hx rfl (cell_two_new w _ _ _) (by simp [Value.oneCell']) (by unfold maxLen; omega) (by omega) (by simp; omega) ?_
  intro v' w' hown' hg hnil
  refine h v' w' (by rw [Own, List.length_append, flat_append]; exact hown') ?_ ?_ ?_
  · refine ((Below.refl B w).alloc hB _).grown hg (by simp; omega) fun k hk => (hown.lt k hk).1
  · have := hg.size; simp at this; omega
  · rcases hown'.2 with ⟨_, h0⟩ | ⟨g, cap, _, hv, _⟩
    · omega
    · exact ⟨g, cap, hv⟩

/-- append(out, xs...): the other slice is whatever reads as a list. -/
theorem wpList_appAll {ops : Array Oper} {rest : List Oper} {o : Oper} {a : Act} {w : World} {Q : Exit → Act → World → Prop} (hgd : o.guard = none) (s x : Operand)
    (ho : o.op = .call { callee := .builtin .append, args := #[s, x], argTypes := #[24, 24] })
    (B : Nat) (v : Value) (l : List Sp) (hown : Own w B v l) (hs : a.eval s = v) (B2 : Nat) (q : Option Addr) (c : Nat) (l2 : List Sp) (hq : SpAt w B2 q l2) (hqc : q = none → c = 0) (hx : a.eval x = .slice q l2.length c)
    (hn : l.length + l2.length ≤ 8796093022207) (hB : B ≤ w.heap.size)
    (h : ∀ v' w', Own w' B v' (l ++ l2) → Below B w w' → wpList Try.prog ops Q rest (a.put o.dst v') w') :
    wpList Try.prog ops Q (o :: rest) a w := by
  obtain ⟨i0, hi, hz0, hz1, hz2⟩ := info_parts Try.infoSp
  cases q with
  | none =>
    obtain rfl : l2 = [] := Classical.byContradiction fun hne => by obtain ⟨_, _, h, _⟩ := hq.at' hne; cases h
    obtain rfl := hqc rfl
    exact wpList_append_own_none hgd s x 24 ho B 23 i0 2 Try.underlying24 hi v l.length (flat l) hs hown hx (h v w (by rw [List.append_nil]; exact hown) (Below.refl _ _))
  | some ad =>
    refine wpList_append_own _ hgd s x 24 ho B 23 i0 _ 2 16 Try.underlying24 hi hz0 hz1 hz2 rfl (by decide) v l.length (flat l) hs hown ad l2.length c (flat l2) hx (flat_length l2) ?_ ?_ (by unfold maxLen; omega) (by omega) hB ?_
    · intro j u hu
      have hj : j < l2.length * 2 := by have := (List.getElem?_eq_some_iff.1 hu).1; rwa [flat_length] at this
      obtain ⟨b, off, h1, _, _, hc⟩ := hq.at' (by rintro rfl; simp at hj)
      obtain rfl : ad = ⟨b, off, none⟩ := Option.some.inj h1
      have hi2 : j / 2 < l2.length := by omega
      have hadd : (⟨b, off, none⟩ : Addr).add j = ⟨b, off + j, none⟩ := by unfold Addr.add; split <;> simp_all
      rw [hadd]
      have hg := flat_get l2 (j / 2) hi2
      have hcc := hc (j / 2) hi2
      rcases Nat.mod_two_eq_zero_or_one j with hm | hm
      · rw [show off + j = off + j / 2 * 2 by omega, hcc.1, ← hg.1, show j / 2 * 2 = j by omega, hu]
      · rw [show off + j = off + j / 2 * 2 + 1 by omega, hcc.2, ← hg.2, show j / 2 * 2 + 1 = j by omega, hu]
    · intro u hu
      unfold flat at hu
      rw [List.mem_flatMap] at hu
      obtain ⟨s, _, hs⟩ := hu
      simp at hs
      rcases hs with rfl | rfl <;> rfl
    · intro v' w' hown' hg _
      exact h v' w' (by rw [Own, List.length_append, flat_append]; exact hown') ((Below.refl B w).grown hg hB fun k hk => (hown.lt k hk).1)

/-- What a function that returns a list and an error has returned: new memory; what was there stands. -/
def Res (w : World) (l : List Sp) (err : Int) (e : Ending) (w' : World) : Prop :=
  ∃ p cap, e = .returned (.tuple #[.slice p l.length cap, .int .i64 err]) ∧ SpAt w' w.heap.size p l ∧ (p = none → cap = 0) ∧ Below w.heap.size w w'
end Go.Proofs.Ytdennlekjndfkaa
