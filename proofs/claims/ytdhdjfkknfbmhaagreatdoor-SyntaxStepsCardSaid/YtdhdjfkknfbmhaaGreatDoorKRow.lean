/- Rows of tokens and of problems. -/
import Derived.Test.YtdhdjfkknfbmhaaGreatDoorKUnq
namespace Go.Proofs.YtdhdjfkknfbmhaaGreatDoor
open Go.RowKit

/-- A token as it lies in memory. -/
structure Tok where
  k : Int
  t : Bs
  a : Int
def Tk.tok (x : Tk) : Tok := ⟨x.k, x.t, x.a⟩
def cellsT (x : Tok) : List Value := [.int .i64 x.k, .string (S x.t), .int .i64 x.a]
def flatT (L : List Tok) : List Value := L.flatMap cellsT
theorem flatT_append (a b : List Tok) : flatT (a ++ b) = flatT a ++ flatT b := by simp [flatT]
theorem flatT_cons (x : Tok) (L : List Tok) : flatT (x :: L) = .int .i64 x.k :: .string (S x.t) :: .int .i64 x.a :: flatT L := rfl
theorem flatT_length (L : List Tok) : (flatT L).length = L.length * 3 := by
  induction L with
  | nil => rfl
  | cons a l ih => rw [flatT_cons]; simp only [List.length_cons, ih]; omega
theorem flatT_get (L : List Tok) : ∀ (i : Nat) (h : i < L.length), (flatT L)[i * 3]? = some (.int .i64 L[i].k) ∧ (flatT L)[i * 3 + 1]? = some (.string (S L[i].t)) ∧ (flatT L)[i * 3 + 2]? = some (.int .i64 L[i].a) := by
  induction L with
  | nil => intro i h; simp at h
  | cons a l ih =>
    intro i h
    cases i with
    | zero => simp [flatT_cons]
    | succ i =>
      have := ih i (by simpa using h)
      rw [flatT_cons, show (i + 1) * 3 = i * 3 + 1 + 1 + 1 by omega]
      simp only [List.getElem?_cons_succ]
      simpa using this
theorem Tryz.infoT : (Tryz.prog.info? 57).map (fun i => (i.zero, i.size, i.bytes)) = some (some (.agg #[.int .i64 0, .string ⟨#[]⟩, .int .i64 0]), 3, 32) := by kernel_rfl
theorem Tryz.infoP : (Tryz.prog.info? 80).map (fun i => (i.zero, i.size, i.bytes)) = some (some (.agg #[.int .i64 0, .int .i64 0]), 2, 16) := by kernel_rfl
theorem three_cells (w : World) (a : Int) (s : ByteArray) (b : Int) : ∀ j u, ([.int .i64 a, .string s, .int .i64 b] : List Value)[j]? = some u → (w.alloc (.cells #[.int .i64 a, .string s, .int .i64 b] 57)).cell? ((⟨w.heap.size, 0, none⟩ : Addr).add j) = some u := by
  intro j u hj
  match j, hj with
  | 0, hj => simp at hj; subst hj; simp [Addr.add]
  | 1, hj => simp at hj; subst hj; simp [Addr.add]
  | 2, hj => simp at hj; subst hj; simp [Addr.add]
  | j + 3, hj => simp at hj
theorem two_cells (w : World) (a b : Int) : ∀ j u, ([.int .i64 a, .int .i64 b] : List Value)[j]? = some u → (w.alloc (.cells #[.int .i64 a, .int .i64 b] 80)).cell? ((⟨w.heap.size, 0, none⟩ : Addr).add j) = some u := by
  intro j u hj
  match j, hj with
  | 0, hj => simp at hj; subst hj; simp [Addr.add]
  | 1, hj => simp at hj; subst hj; simp [Addr.add]
  | j + 2, hj => simp at hj

/-- The row is the call's own, from block B on. -/
def TRow (w : World) (B : Nat) (v : Value) (L : List Tok) : Prop := w.ownsRow B 57 3 v L.length (flatT L)
def flatP (L : List Nat) : List Value := L.flatMap fun (a : Nat) => [Value.int .i64 (a : Int), .int .i64 50]
theorem flatP_append (a b : List Nat) : flatP (a ++ b) = flatP a ++ flatP b := by simp [flatP]
theorem flatP_length (L : List Nat) : (flatP L).length = L.length * 2 := by
  induction L with
  | nil => rfl
  | cons a l ih => show (flatP l).length + 2 = (l.length + 1) * 2; omega
theorem flatP_get (L : List Nat) : ∀ (i : Nat) (h : i < L.length), (flatP L)[i * 2]? = some (.int .i64 L[i]) ∧ (flatP L)[i * 2 + 1]? = some (.int .i64 50) := by
  induction L with
  | nil => intro i h; simp at h
  | cons a l ih =>
    intro i h
    cases i with
    | zero => exact ⟨rfl, rfl⟩
    | succ i =>
      have := ih i (by simpa using h)
      show ((.int .i64 a : Value) :: .int .i64 50 :: flatP l)[(i + 1) * 2]? = _ ∧ ((.int .i64 a : Value) :: .int .i64 50 :: flatP l)[(i + 1) * 2 + 1]? = _
      rw [show (i + 1) * 2 = i * 2 + 1 + 1 by omega]
      simp only [List.getElem?_cons_succ]
      simpa using this
def PRow (w : World) (B : Nat) (v : Value) (L : List Nat) : Prop := w.ownsRow B 80 2 v L.length (flatP L)
theorem own_rows {w : World} {B : Nat} {e : TypeId} {s : Nat} {v : Value} {n : Nat} {xs : List Value} (h : w.ownsRow B e s v n xs) : ∀ k, v.ownBlock = some k → B ≤ k ∧ k < w.heap.size := h.lt
theorem own_same {w w' : World} {B : Nat} {e : TypeId} {s : Nat} {v : Value} {n : Nat} {xs : List Value} (h : w.ownsRow B e s v n xs) (hb : ∀ k, v.ownBlock = some k → w'.heap[k]? = w.heap[k]?) : w'.ownsRow B e s v n xs := by
  refine ⟨h.1, h.2.imp id ?_⟩
  rintro ⟨g, cap, cur, rfl, a, b, c⟩
  exact ⟨g, cap, cur, rfl, a, by rw [hb g rfl]; exact b, c⟩
theorem own_bel {w w' : World} {B m : Nat} {e : TypeId} {s : Nat} {v : Value} {n : Nat} {xs : List Value} (h : w.ownsRow B e s v n xs) (hb : Below m w w') (hm : w.heap.size ≤ m) : w'.ownsRow B e s v n xs :=
  own_same h fun k hk => hb.block k (by have := (own_rows h k hk).2; omega)

/-- append(l, t): the token lies in a new block of its own first. -/
theorem wpList_pushT {ops : Array Oper} {rest : List Oper} {o : Oper} {a : Act} {w : World} {Q : Exit → Act → World → Prop} (hgd : o.guard = none) (s x : Operand)
    (ho : o.op = .call { callee := .builtin .append, args := #[s, x], argTypes := #[24, 24] })
    (B : Nat) (val : Value) (L : List Tok) (hown : TRow w B val L) (hs : a.eval s = val) (y : Tok) (c : Nat) (hx : a.eval x = .slice (some ⟨w.heap.size, 0, none⟩) 1 c)
    (hn : L.length ≤ 2000000000000) (hB : B ≤ w.heap.size)
    (h : ∀ v2 w', TRow w' B v2 (L ++ [y]) → w.grownBy w' val.ownBlock → (∀ k, v2.ownBlock = some k → some k = val.ownBlock ∨ w.heap.size ≤ k) → wpList Tryz.prog ops Q rest (a.put o.dst v2) w') :
    wpList Tryz.prog ops Q (o :: rest) a (w.alloc (.cells #[.int .i64 y.k, .string (S y.t), .int .i64 y.a] 57)) := by
  obtain ⟨i0, hi, hz0, hz1, hz2⟩ := info_parts Tryz.infoT
  refine wpList_append_lies _ hgd s x 24 ho B 57 i0 _ 3 32 Tryz.underlying24 hi hz0 hz1 hz2 rfl (by decide) val L.length (flatT L) hs (own_bel hown ((Below.refl w.heap.size w).alloc (Nat.le_refl _) _) (Nat.le_refl _)) ⟨w.heap.size, 0, none⟩ 1 c _ hx rfl (three_cells w _ _ _) (by simp [Value.oneCell']) (by decide) (by unfold maxLen; omega) (by omega) (by simp; omega) (w.heap.size + 1) (by simp) ?_
  intro g cap' w' hown' hg hat hlt
  refine h _ w' (by unfold TRow; rw [List.length_append, flatT_append]; exact hown') ⟨hg.os, hg.tape, hg.output, by have := hg.size; simp at this; omega, fun k hk hne => ?_⟩ ?_
  · exact (hg.block k (by simp; omega) hne).trans (by rw [((Below.refl w.heap.size w).alloc (Nat.le_refl _) _).block k hk])
  · intro k hk
    have e3 : g = k := by simpa [Value.ownBlock] using hk
    subst e3
    rcases hat with e4 | e4
    · exact Or.inl e4.symm
    · exact Or.inr (by omega)
theorem wpList_pushP {ops : Array Oper} {rest : List Oper} {o : Oper} {a : Act} {w : World} {Q : Exit → Act → World → Prop} (hgd : o.guard = none) (s x : Operand)
    (ho : o.op = .call { callee := .builtin .append, args := #[s, x], argTypes := #[25, 25] })
    (B : Nat) (val : Value) (L : List Nat) (hown : PRow w B val L) (hs : a.eval s = val) (y : Nat) (c : Nat) (hx : a.eval x = .slice (some ⟨w.heap.size, 0, none⟩) 1 c)
    (hn : L.length ≤ 2000000000000) (hB : B ≤ w.heap.size)
    (h : ∀ v2 w', PRow w' B v2 (L ++ [y]) → w.grownBy w' val.ownBlock → (∀ k, v2.ownBlock = some k → some k = val.ownBlock ∨ w.heap.size ≤ k) → wpList Tryz.prog ops Q rest (a.put o.dst v2) w') :
    wpList Tryz.prog ops Q (o :: rest) a (w.alloc (.cells #[.int .i64 y, .int .i64 50] 80)) := by
  obtain ⟨i0, hi, hz0, hz1, hz2⟩ := info_parts Tryz.infoP
  refine wpList_append_lies _ hgd s x 25 ho B 80 i0 _ 2 16 Tryz.underlying25 hi hz0 hz1 hz2 rfl (by decide) val L.length (flatP L) hs (own_bel hown ((Below.refl w.heap.size w).alloc (Nat.le_refl _) _) (Nat.le_refl _)) ⟨w.heap.size, 0, none⟩ 1 c _ hx rfl (two_cells w _ _) (by simp [Value.oneCell']) (by decide) (by unfold maxLen; omega) (by omega) (by simp; omega) (w.heap.size + 1) (by simp) ?_
  intro g cap' w' hown' hg hat hlt
  refine h _ w' (by unfold PRow; rw [List.length_append, flatP_append]; exact hown') ⟨hg.os, hg.tape, hg.output, by have := hg.size; simp at this; omega, fun k hk hne => ?_⟩ ?_
  · exact (hg.block k (by simp; omega) hne).trans (by rw [((Below.refl w.heap.size w).alloc (Nat.le_refl _) _).block k hk])
  · intro k hk
    have e3 : g = k := by simpa [Value.ownBlock] using hk
    subst e3
    rcases hat with e4 | e4
    · exact Or.inl e4.symm
    · exact Or.inr (by omega)

/-- A row of tokens at p, its block from B on. -/
structure TAt (w : World) (B : Nat) (p : Option Addr) (L : List Tok) : Prop where
  len : L.length ≤ 4398046510976
  tl : ∀ x ∈ L, x.t.length ≤ 140737488351232
  at' : L ≠ [] → ∃ b off, p = some ⟨b, off, none⟩ ∧ B ≤ b ∧ b < w.heap.size ∧ ∀ i (h : i < L.length), w.cell? ⟨b, off + i * 3, none⟩ = some (.int .i64 L[i].k) ∧ w.cell? ⟨b, off + i * 3 + 1, none⟩ = some (.string (S L[i].t)) ∧ w.cell? ⟨b, off + i * 3 + 2, none⟩ = some (.int .i64 L[i].a)
theorem TAt.bel {w w' : World} {B m : Nat} {p : Option Addr} {L : List Tok} (h : TAt w B p L) (hb : Below m w w') (hm : w.heap.size ≤ m) : TAt w' B p L :=
  ⟨h.len, h.tl, fun hl => by
    obtain ⟨b, off, h1, h2, h3, h4⟩ := h.at' hl
    have hc := fun o => hb.cell (p := ⟨b, o, none⟩) (show b < m by omega)
    exact ⟨b, off, h1, h2, Nat.lt_of_lt_of_le h3 hb.size, fun i hi => ⟨(hc _).trans (h4 i hi).1, (hc _).trans (h4 i hi).2.1, (hc _).trans (h4 i hi).2.2⟩⟩⟩
theorem own_cell {w : World} {B : Nat} {e : TypeId} {s : Nat} {v : Value} {n : Nat} {xs : List Value} (h : w.ownsRow B e s v n xs) : (v = .slice none 0 0 ∧ n = 0) ∨ ∃ g cap, v = .slice (some ⟨g, 0, none⟩) n cap ∧ B ≤ g ∧ g < w.heap.size ∧ n ≤ cap ∧ cap ≤ 9223372036854775807 ∧ ∀ j u, xs[j]? = some u → w.cell? ⟨g, j, none⟩ = some u := by
  rcases h.2 with ⟨hv, hn0⟩ | ⟨g, cap, cur, hv, hB, hg, hc, hm, hsz, ht⟩
  · exact Or.inl ⟨hv, hn0⟩
  · refine Or.inr ⟨g, cap, hv, hB, (Array.getElem?_eq_some_iff.1 hg).1, hc, by unfold maxLen at hm; omega, fun j u hu => ?_⟩
    rw [cell_of_row w g j cur _ (0, 0) hg]
    rw [← ht, List.getElem?_take] at hu
    split at hu
    · simpa using hu
    · cases hu
theorem TRow.reads {w : World} {B : Nat} {v : Value} {L : List Tok} (h : TRow w B v L) (hl : L.length ≤ 4398046510976) (ht : ∀ x ∈ L, x.t.length ≤ 140737488351232) :
    ∃ p cap, v = .slice p L.length cap ∧ TAt w B p L ∧ L.length ≤ cap ∧ cap ≤ 9223372036854775807 ∧ (p = none → cap = 0) := by
  rcases own_cell h with ⟨hv, hn⟩ | ⟨g, cap, hv, hB, hg, hc, hc2, hx⟩
  · have : L = [] := List.length_eq_zero_iff.1 hn
    subst this
    exact ⟨none, 0, hv, ⟨by simp, by simp, fun h => absurd rfl h⟩, by simp, by omega, fun _ => rfl⟩
  · refine ⟨_, cap, hv, ⟨hl, ht, fun _ => ⟨g, 0, rfl, hB, hg, fun i hi => ?_⟩⟩, hc, hc2, fun h => by cases h⟩
    obtain ⟨f0, f1, f2⟩ := flatT_get L i hi
    rw [Nat.zero_add]
    exact ⟨hx _ _ f0, hx _ _ f1, hx _ _ f2⟩
/-- A row of problems at p. -/
def PAt (w : World) (B : Nat) (p : Option Addr) (L : List Nat) : Prop := L ≠ [] → ∃ b off, p = some ⟨b, off, none⟩ ∧ B ≤ b ∧ b < w.heap.size ∧ ∀ i (h : i < L.length), w.cell? ⟨b, off + i * 2, none⟩ = some (.int .i64 L[i]) ∧ w.cell? ⟨b, off + i * 2 + 1, none⟩ = some (.int .i64 50)
theorem PAt.bel {w w' : World} {B m : Nat} {p : Option Addr} {L : List Nat} (h : PAt w B p L) (hb : Below m w w') (hm : w.heap.size ≤ m) : PAt w' B p L := fun hl => by
  obtain ⟨b, off, h1, h2, h3, h4⟩ := h hl
  have hc := fun o => hb.cell (p := ⟨b, o, none⟩) (show b < m by omega)
  exact ⟨b, off, h1, h2, Nat.lt_of_lt_of_le h3 hb.size, fun i hi => ⟨(hc _).trans (h4 i hi).1, (hc _).trans (h4 i hi).2⟩⟩
theorem PRow.reads {w : World} {B : Nat} {v : Value} {L : List Nat} (h : PRow w B v L) : ∃ p cap, v = .slice p L.length cap ∧ PAt w B p L ∧ L.length ≤ cap ∧ cap ≤ 9223372036854775807 := by
  rcases own_cell h with ⟨hv, hn⟩ | ⟨g, cap, hv, hB, hg, hc, hc2, hx⟩
  · have : L = [] := List.length_eq_zero_iff.1 hn
    subst this
    exact ⟨none, 0, hv, fun h => absurd rfl h, by simp, by omega⟩
  · refine ⟨_, cap, hv, fun _ => ⟨g, 0, rfl, hB, hg, fun i hi => ?_⟩, hc, hc2⟩
    obtain ⟨f0, f1⟩ := flatP_get L i hi
    rw [Nat.zero_add]
    exact ⟨hx _ _ f0, hx _ _ f1⟩
end Go.Proofs.YtdhdjfkknfbmhaaGreatDoor
