/- append in a round of a loop over an iterator: the row is the old one, or a new one. -/
import Derived.Test.YtdennlekjndfkaaIter
namespace Go.Proofs.Ytdennlekjndfkaa
open Go.RowKit

theorem run_app (w : World) (ty : TypeId) (B : Nat) (v : Value) (l : List Sp) (hown : Own w B v l) (sp : Sp) (c : Nat) (hn : l.length < 8796093022207) (hB : B ≤ w.heap.size) :
    ∃ g cap w', (Builtin.append_ #[24, 24] ty #[v, .slice (some ⟨w.heap.size, 0, none⟩) 1 c]).run Try.prog (w.alloc (.cells #[.int .i64 sp.1, .int .i64 sp.2] 23)) = .ok (.slice (some ⟨g, 0, none⟩) (l.length + 1) cap) w' ∧
      Own w' B (.slice (some ⟨g, 0, none⟩) (l.length + 1) cap) (l ++ [sp]) ∧ (w.alloc (.cells #[.int .i64 sp.1, .int .i64 sp.2] 23)).grownBy w' v.ownBlock ∧ (v.ownBlock = some g ∨ w.heap.size ≤ g) := by
  obtain ⟨i0, hi, hz0, hz1, hz2⟩ := info_parts Try.infoSp
  have hl2 : ([.int .i64 sp.1, .int .i64 sp.2] : List Value).length = 1 * 2 := rfl
  have h1 : ∀ u ∈ ([.int .i64 sp.1, .int .i64 sp.2] : List Value), u.oneCell' = true := by simp [Value.oneCell']
  have h63 : l.length + 1 ≤ maxLen := by unfold maxLen; omega
  obtain ⟨v', w', hr, hown', hg, hnil⟩ := run_append_own (P := Try.prog) _ B 24 ty 23 i0 _ 2 16 Try.underlying24 hi hz0 hz1 hz2 rfl (by decide) v l.length (flat l) (hown.alloc _) ⟨w.heap.size, 0, none⟩ 1 c [.int .i64 sp.1, .int .i64 sp.2] hl2 (cell_two_new w _ _ _) h1 h63 (by omega) (by simp; omega)
  have hO : ∀ v', w'.ownsRow B 23 2 v' (l.length + 1) (flat l ++ [.int .i64 sp.1, .int .i64 sp.2]) → Own w' B v' (l ++ [sp]) := fun v' h => by rw [Own, List.length_append, flat_append]; exact h
  obtain ⟨g, cap, rfl⟩ := ownsRow_succ hown'
  refine ⟨g, cap, w', hr, hO _ hown', hg, ?_⟩
  rcases hown.2 with ⟨hv, hn0⟩ | ⟨g0, cap0, cur, hv, hB0, hg0, hnc, hcm, hcs, htake⟩
  · right
    subst hv
    have hl0 : l = [] := List.length_eq_zero_iff.1 hn0
    subst hl0
    obtain ⟨v2, w2, hr2, hown2, _⟩ := run_append_own (P := Try.prog) _ w.heap.size 24 ty 23 i0 _ 2 16 Try.underlying24 hi hz0 hz1 hz2 rfl (by decide) (.slice none 0 0) 0 [] (World.ownsRow_nil _ _ _ _) ⟨w.heap.size, 0, none⟩ 1 c [.int .i64 sp.1, .int .i64 sp.2] hl2 (cell_two_new w _ _ _) h1 h63 (by omega) (by simp)
    rw [hr] at hr2
    have e := (Result.ok.inj hr2).1
    subst e
    exact (hown2.lt g rfl).1
  · subst hv
    have hg1 : (w.alloc (.cells #[.int .i64 sp.1, .int .i64 sp.2] 23)).heap[g0]? = some (.cells cur 23 (0, 0)) := by rw [Below.heap_alloc _ _ _ (Array.getElem?_eq_some_iff.1 hg0).1]; exact hg0
    by_cases hroom : l.length + 1 ≤ cap0
    · left
      have hr2 := run_append_room (P := Try.prog) _ 24 ty 23 i0 Try.underlying24 hi g0 l.length cap0 cur hg1 ⟨w.heap.size, 0, none⟩ 1 c [.int .i64 sp.1, .int .i64 sp.2] (by rw [hz1]; rfl) (cell_two_new w _ _ _) h1 hroom (by rw [hz1, hcs]; show l.length * 2 + 2 ≤ _; omega)
      rw [hr] at hr2
      have e := (Result.ok.inj hr2).1
      injection e with e1 _ _
      injection e1 with e1
      injection e1 with e1 _ _
      show some g0 = some g
      rw [e1]
    · right
      have hr2 := run_append_grow (P := Try.prog) (w.alloc (.cells #[.int .i64 sp.1, .int .i64 sp.2] 23)) 24 ty 23 i0 _ Try.underlying24 hi hz0 ⟨g0, 0, none⟩ l.length cap0 (flat l) (by rw [hz1]; exact flat_length l) ((hown.alloc _).cells (g := g0) rfl) ⟨w.heap.size, 0, none⟩ 1 c [.int .i64 sp.1, .int .i64 sp.2] (by rw [hz1]; rfl) (cell_two_new w _ _ _) (by omega) (by omega) (growslice_fits (by omega) (by rw [hz2]; omega))
      rw [hr] at hr2
      have e := (Result.ok.inj hr2).1
      injection e with e1 _ _
      injection e1 with e1
      injection e1 with e1 _ _
      rw [e1]; simp

theorem wpListIn_app {F : Fence} {n : Nat} {ops : Array Oper} {rest : List Oper} {o : Oper} {a : Act} {w : World} {Q : Exit → Act → World → Prop} (hgd : o.guard = none) (s x : Operand)
    (ho : o.op = .call { callee := .builtin .append, args := #[s, x], argTypes := #[24, 24] })
    (B : Nat) (v : Value) (l : List Sp) (hown : Own w B v l) (hs : a.eval s = v) (sp : Sp) (c : Nat) (hx : a.eval x = .slice (some ⟨w.heap.size, 0, none⟩) 1 c)
    (hn : l.length < 8796093022207) (hB : B ≤ w.heap.size)
    (h : ∀ g cap w', Own w' B (.slice (some ⟨g, 0, none⟩) (l.length + 1) cap) (l ++ [sp]) → (w.alloc (.cells #[.int .i64 sp.1, .int .i64 sp.2] 23)).grownBy w' v.ownBlock → (v.ownBlock = some g ∨ w.heap.size ≤ g) →
      wpListIn F n Try.prog ops Q rest (a.put o.dst (.slice (some ⟨g, 0, none⟩) (l.length + 1) cap)) w') :
    wpListIn F n Try.prog ops Q (o :: rest) a (w.alloc (.cells #[.int .i64 sp.1, .int .i64 sp.2] 23)) := by
  refine wpListIn_plain hgd fun K hK' => ?_
  obtain ⟨g, cap, w', hrun, r1, r2, r3⟩ := run_app w o.type B v l hown sp c hn hB
  unfold Oper.wpIn
  refine ⟨?_, ?_⟩
  · simp [Oper.about, ho, resolve, Target.leads, Sem.run_pure]
  · rw [Oper.semAt_plain F _ _ (by rw [ho]; intro c hc'; cases hc')]
    simp [execOp, ho, resolve, invoke, builtin, hs, hx, hrun, Result.andThen]
    exact hK' _ _ (h g cap w' r1 r2 r3)

/-- The collecting box after such an append and its store. -/
theorem Kp.app {W w1 : World} {Bl B : Nat} {v : Value} {l : List Sp} {tmp : Obj} {g n cap : Nat} (hb : Boxed W Bl 24 v) (hown : Own W B v l) (hg : (W.alloc tmp).grownBy w1 v.ownBlock) (hr : v.ownBlock = some g ∨ W.heap.size ≤ g) :
    Kp Bl W (w1.setCell ⟨Bl, 0, none⟩ (.slice (some ⟨g, 0, none⟩) n cap)) := by
  have hrb : ∀ k, v.ownBlock = some k → rb Bl W = k := by
    intro k hk
    unfold rb
    rw [hb.cell]
    cases v <;> simp_all [Value.ownBlock]
    rename_i p _ _
    cases p <;> simp_all [Value.ownBlock]
  have hb1 : Boxed w1 Bl 24 v := (hb.alloc tmp).kept hg (hb.not_row (by decide) hown)
  have hsz := hg.size
  rw [World.size_alloc] at hsz
  refine ⟨by simp; omega, fun b o u h1 h2 hc => ?_, ?_⟩
  · have hlt : b < W.heap.size := World.block_lt_of_cell? _ ⟨b, o, none⟩ hc
    have e1 : (W.alloc tmp).cell? ⟨b, o, none⟩ = some u := (((Below.refl W.heap.size W).alloc (Nat.le_refl _) tmp).cell (p := ⟨b, o, none⟩) hlt).trans hc
    have e2 := hg.cell e1 (by intro e; exact h2 (hrb b e.symm).symm)
    rw [← e2]
    exact World.cell?_of_block (a := ⟨b, o, none⟩) (Below.heap_setCell _ _ _ _ h1)
  · have e : rb Bl (w1.setCell ⟨Bl, 0, none⟩ (.slice (some ⟨g, 0, none⟩) n cap)) = g := by
      unfold rb; rw [(hb1.set _).cell]
    rw [e]
    rcases hr with h | h
    · exact .inl (hrb g h).symm
    · exact .inr h
end Go.Proofs.Ytdennlekjndfkaa
