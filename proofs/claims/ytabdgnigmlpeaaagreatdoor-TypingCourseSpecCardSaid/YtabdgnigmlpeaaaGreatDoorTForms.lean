/- A row of forms that the call itself makes. -/
import Derived.Test.YtabdgnigmlpeaaaGreatDoorTFit
import Derived.OwnWalk
import Derived.Deep.AppendLies
namespace Go.Proofs.YtabdgnigmlpeaaaGreatDoor
open Go.RowKit

theorem FmIn.iface {w : World} {Q : Nat → Prop} {f : Fm} {x : Value} (h : FmIn w Q f x) : ∃ t v, x = .iface t v := by
  cases f with
  | atl v n => rw [FmIn] at h; exact ⟨_, _, h⟩
  | all l => rw [FmIn] at h; obtain ⟨_, _, _, _, e, _⟩ := h; exact ⟨_, _, e⟩
  | one l => rw [FmIn] at h; obtain ⟨_, _, _, _, e, _⟩ := h; exact ⟨_, _, e⟩
  | neg f => rw [FmIn] at h; obtain ⟨_, e, _⟩ := h; exact ⟨_, _, e⟩
  | crit b => rw [FmIn] at h; exact ⟨_, _, h⟩
  | bran c th el => rw [FmIn] at h; obtain ⟨_, _, _, _, _, _, _, _, _, e, _⟩ := h; exact ⟨_, _, e⟩
  | mis => rw [FmIn] at h; exact ⟨_, _, h⟩
theorem FmIn.mono {w : World} {Q Q' : Nat → Prop} {f : Fm} {x : Value} (h : FmIn w Q f x) (hq : ∀ b, Q b → Q' b) : FmIn w Q' f x := FmIn.keep2 (Nat.le_refl _) (fun b hb _ => ⟨hq b hb, rfl⟩) f x h
/-- The row val is the call's own, from block B on, and holds the forms l, whose lists lie in the call's own blocks, beside the row. -/
structure OwnF (w : World) (B : Nat) (val : Value) (l : List (Fm × Value)) : Prop where
  own : w.ownsRow B 94 1 val l.length (l.map (·.2))
  els : ∀ e ∈ l, FmIn w (fun b => B ≤ b ∧ some b ≠ val.ownBlock) e.1 e.2
theorem OwnF.nil (w : World) (B : Nat) : OwnF w B (.slice none 0 0) [] := ⟨World.ownsRow_nil w B _ _, by simp⟩
theorem OwnF.lt {w : World} {B : Nat} {val : Value} {l : List (Fm × Value)} (h : OwnF w B val l) : ∀ k, val.ownBlock = some k → B ≤ k ∧ k < w.heap.size := h.own.lt
theorem OwnF.bel {w w' : World} {B : Nat} {val : Value} {l : List (Fm × Value)} (h : OwnF w B val l) (hb : Below w.heap.size w w') : OwnF w' B val l := by
  refine ⟨⟨h.own.1, h.own.2.imp id ?_⟩, fun e he => FmIn.keep2 hb.size (fun b hq hl => ⟨hq, hb.block b hl⟩) _ _ (h.els e he)⟩
  rintro ⟨g, cap, cur, rfl, a, b, c⟩
  exact ⟨g, cap, cur, rfl, a, by rw [hb.block g ((Array.getElem?_eq_some_iff.1 b).1)]; exact b, c⟩
theorem Tryz.infoF : (Tryz.prog.info? 94).map (fun i => (i.zero, i.size, i.bytes)) = some (some .nilIface, 1, 16) := by kernel_rfl

/-- append(l, x): the value lies in a new block of its own first. -/
theorem wpList_pushF {ops : Array Oper} {rest : List Oper} {o : Oper} {a : Act} {w : World} {Q : Exit → Act → World → Prop} (hgd : o.guard = none) (s x : Operand)
    (ho : o.op = .call { callee := .builtin .append, args := #[s, x], argTypes := #[97, 97] })
    (B : Nat) (val : Value) (l : List (Fm × Value)) (hown : OwnF w B val l) (hs : a.eval s = val) (f : Fm) (t : TypeId) (v : Value) (c : Nat) (hx : a.eval x = .slice (some ⟨w.heap.size, 0, none⟩) 1 c)
    (hv : FmIn w (fun b => B ≤ b ∧ some b ≠ val.ownBlock) f (.iface t v)) (hn : l.length ≤ 6000000000000) (hB : B ≤ w.heap.size)
    (h : ∀ g cap' w', OwnF w' B (.slice (some ⟨g, 0, none⟩) (l.length + 1) cap') (l ++ [(f, .iface t v)]) → w.grownBy w' val.ownBlock → wpList Tryz.prog ops Q rest (a.put o.dst (.slice (some ⟨g, 0, none⟩) (l.length + 1) cap')) w') :
    wpList Tryz.prog ops Q (o :: rest) a (w.alloc (.cells #[.iface t v] 94)) := by
  obtain ⟨i0, hi, hz0, hz1, hz2⟩ := info_parts Tryz.infoF
  have hcells : ∀ j u, ([.iface t v] : List Value)[j]? = some u → (w.alloc (.cells #[.iface t v] 94)).cell? ((⟨w.heap.size, 0, none⟩ : Addr).add j) = some u := by
    intro j u hj
    match j, hj with
    | 0, hj => simp at hj; subst hj; simp [Addr.add]
    | j + 1, hj => simp at hj
  refine wpList_append_lies _ hgd s x 97 ho B 94 i0 _ 1 16 Tryz.underlying97 hi hz0 hz1 hz2 rfl (by decide) val l.length (l.map (·.2)) hs (hown.own.alloc _) ⟨w.heap.size, 0, none⟩ 1 c _ hx rfl hcells (by simp [Value.oneCell']) (by decide) (by unfold maxLen; omega) (by omega) (by simp; omega) (w.heap.size + 1) (by simp) ?_
  intro g cap' w' hown' hg hat hlt
  have hg' : w.grownBy w' val.ownBlock := by
    refine ⟨hg.os, hg.tape, hg.output, by have := hg.size; simp at this; omega, fun k hk hne => ?_⟩
    exact (hg.block k (by simp; omega) hne).trans (by rw [((Below.refl w.heap.size w).alloc (Nat.le_refl _) _).block k hk])
  have key : ∀ e : Fm × Value, FmIn w (fun b => B ≤ b ∧ some b ≠ val.ownBlock) e.1 e.2 → FmIn w' (fun b => B ≤ b ∧ some b ≠ (Value.slice (some ⟨g, 0, none⟩) (l.length + 1) cap').ownBlock) e.1 e.2 := fun e he =>
    FmIn.keep2 hg'.size (fun b hb hbl => ⟨⟨hb.1, fun e2 => by
      have e3 : b = g := by simpa [Value.ownBlock] using e2
      subst e3
      rcases hat with e4 | e4
      · exact hb.2 e4.symm
      · omega⟩, hg'.block b hbl hb.2⟩) _ _ he
  refine h g cap' w' ⟨by rw [List.length_append, List.map_append]; exact hown', fun e he => ?_⟩ hg'
  rcases List.mem_append.1 he with he | he
  · exact key e (hown.els e he)
  · obtain rfl := List.mem_singleton.1 he
    exact key _ hv
/-- What the row is as a value. -/
theorem OwnF.reads {w : World} {B : Nat} {val : Value} {l : List (Fm × Value)} (h : OwnF w B val l) (hl : l.length ≤ 6000000000000) :
    ∃ p cap, val = .slice p l.length cap ∧ FsIn w (B ≤ ·) (l.map (·.1)) p cap := by
  rcases h.own.2 with ⟨hv, hn0⟩ | ⟨g, cap, cur, hv, hB, hg, hc, hm, hsz, ht⟩
  · obtain rfl : l = [] := List.length_eq_zero_iff.1 hn0
    exact ⟨none, 0, hv, 0, 0, ⟨by simp, by simp, by simp, fun _ => rfl, fun h => absurd rfl h⟩, by rw [List.map_nil, FsAt]; trivial⟩
  · refine ⟨_, cap, hv, g, 0, ⟨by rw [List.length_map]; omega, by rw [List.length_map]; exact hc, by unfold maxLen at hm; omega, (fun h => by cases h), fun _ => ⟨rfl, hB, (Array.getElem?_eq_some_iff.1 hg).1⟩⟩, FsAt.of _ _ fun i hi => ?_⟩
    rw [List.length_map] at hi
    refine ⟨l[i].2, ?_, ?_⟩
    · rw [cell_of_row w g (0 + i) cur _ (0, 0) hg]
      have hu : (l.map (·.2))[i]? = some l[i].2 := by simp [hi]
      rw [← ht, List.getElem?_take] at hu
      split at hu
      · simpa using hu
      · cases hu
    · simp only [List.getElem_map]
      exact FmIn.mono (h.els l[i] (List.getElem_mem hi)) fun b hb => hb.1
end Go.Proofs.YtabdgnigmlpeaaaGreatDoor
