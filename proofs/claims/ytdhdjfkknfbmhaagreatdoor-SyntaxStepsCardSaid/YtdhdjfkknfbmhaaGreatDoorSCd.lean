/- Conditions in memory; negated. -/
import Derived.Test.YtdhdjfkknfbmhaaGreatDoorSCho
namespace Go.Proofs.YtdhdjfkknfbmhaaGreatDoor
open Go.RowKit

def Cd.k : Cd → Int | .mk k _ _ _ => k
def Cd.v : Cd → Int | .mk _ v _ _ => v
def Cd.n : Cd → Int | .mk _ _ n _ => n
def Cd.ps : Cd → List Cd | .mk _ _ _ ps => ps
/-- A condition as Go has it; its parts lie at p. -/
def cV (c : Cd) (p : Option Addr) (cap : Nat) : Value := .agg #[.int .i64 c.k, .int .i64 c.v, .int .i64 c.n, .slice p c.ps.length cap]
/-- The condition c, whose parts are the slice at p with room cap, lies in memory, in blocks of which Q holds. -/
inductive CdIn (w : World) (Q : Nat → Prop) : Cd → Option Addr → Nat → Prop
  | mk (k v n : Int) (ps : List Cd) (p : Option Addr) (cap b off : Nat) (P : Nat → Option Addr) (C : Nat → Nat)
      (hl : ps.length ≤ 3000000000000) (hc : ps.length ≤ cap) (hc2 : cap ≤ 9223372036854775807) (hp : p = none → cap = 0)
      (hb : ps ≠ [] → p = some ⟨b, off, none⟩ ∧ Q b ∧ b < w.heap.size)
      (hcell : ∀ i (h : i < ps.length), w.cell? ⟨b, off + i * 4, none⟩ = some (.int .i64 ps[i].k) ∧ w.cell? ⟨b, off + i * 4 + 1, none⟩ = some (.int .i64 ps[i].v) ∧
        w.cell? ⟨b, off + i * 4 + 2, none⟩ = some (.int .i64 ps[i].n) ∧ w.cell? ⟨b, off + i * 4 + 3, none⟩ = some (.slice (P i) ps[i].ps.length (C i)))
      (hsub : ∀ i (h : i < ps.length), CdIn w Q ps[i] (P i) (C i)) : CdIn w Q (.mk k v n ps) p cap
theorem CdIn.keep {w w' : World} {Q : Nat → Prop} {c : Cd} {p : Option Addr} {cap : Nat} (h : CdIn w Q c p cap) (hs : w.heap.size ≤ w'.heap.size) (hk : ∀ b, Q b → b < w.heap.size → w'.heap[b]? = w.heap[b]?) : CdIn w' Q c p cap := by
  induction h with
  | mk k v n ps p cap b off P C hl hc hc2 hp hb hcell hsub ih =>
    refine .mk k v n ps p cap b off P C hl hc hc2 hp (fun hne => ⟨(hb hne).1, (hb hne).2.1, Nat.lt_of_lt_of_le (hb hne).2.2 hs⟩) (fun i hi => ?_) ih
    obtain ⟨_, h1, h2⟩ := hb (by rintro rfl; simp at hi)
    have hh := fun o => World.cell?_of_block (a := ⟨b, o, none⟩) (hk b h1 h2)
    obtain ⟨c1, c2, c3, c4⟩ := hcell i hi
    exact ⟨(hh _).trans c1, (hh _).trans c2, (hh _).trans c3, (hh _).trans c4⟩
theorem CdIn.mono {w : World} {Q Q' : Nat → Prop} {c : Cd} {p : Option Addr} {cap : Nat} (h : CdIn w Q c p cap) (hq : ∀ b, Q b → Q' b) : CdIn w Q' c p cap := by
  induction h with
  | mk k v n ps p cap b off P C hl hc hc2 hp hb hcell hsub ih =>
    exact .mk k v n ps p cap b off P C hl hc hc2 hp (fun hne => ⟨(hb hne).1, hq _ (hb hne).2.1, (hb hne).2.2⟩) hcell ih
theorem CdIn.bel {w w' : World} {Q : Nat → Prop} {c : Cd} {p : Option Addr} {cap : Nat} (h : CdIn w Q c p cap) (hb : Below w.heap.size w w') : CdIn w' Q c p cap := h.keep hb.size fun b _ hl => hb.block b hl
theorem CdIn.leaf {w : World} {Q : Nat → Prop} {k v n : Int} : CdIn w Q (.mk k v n []) none 0 :=
  .mk k v n [] none 0 0 0 (fun _ => none) (fun _ => 0) (by simp) (by simp) (by simp) (fun _ => rfl) (fun h => absurd rfl h) (fun i h => by simp at h) (fun i h => by simp at h)
/-- One condition as the only part of another. -/
theorem CdIn.one {w : World} {Q : Nat → Prop} {c : Cd} {p : Option Addr} {cap : Nat} (h : CdIn w Q c p cap) (k v n : Int) :
    CdIn (w.alloc (.cells #[.int .i64 c.k, .int .i64 c.v, .int .i64 c.n, .slice p c.ps.length cap] 49)) (fun b => Q b ∨ w.heap.size ≤ b) (.mk k v n [c]) (some ⟨w.heap.size, 0, none⟩) 1 := by
  have hB := (Below.refl w.heap.size w).alloc (Nat.le_refl _) (.cells #[.int .i64 c.k, .int .i64 c.v, .int .i64 c.n, .slice p c.ps.length cap] 49)
  refine .mk k v n [c] _ 1 w.heap.size 0 (fun _ => p) (fun _ => cap) (by simp) (by simp) (by simp) (fun h => by cases h) (fun _ => ⟨rfl, Or.inr (Nat.le_refl _), by simp⟩) (fun i hi => ?_) (fun i hi => ?_)
  · have : i = 0 := by simpa using hi
    subst this
    refine ⟨?_, ?_, ?_, ?_⟩ <;> simp [go_sem]
  · have : i = 0 := by simpa using hi
    subst this
    exact (h.bel hB).mono fun b hb => Or.inl hb

set_option maxHeartbeats 2000000 in
set_option maxRecDepth 100000 in
theorem negated_any (c : Cd) (p : Option Addr) (cap : Nat) (Q : Nat → Prop) (w : World) (h : CdIn w Q c p cap) :
    Calls Tryz.prog 136 #[cV c p cap] w fun e w' => ∃ q d, e = .returned (cV (negatedS c) q d) ∧ CdIn w' (fun b => Q b ∨ w.heap.size ≤ b) (negatedS c) q d ∧ Below w.heap.size w w' := by
  unfold cV
  have HC := Lib.hid h
  clear h
  go_enter Tryz.func136, Tryz.ntmps136
  go_wp2_with fail
  have hB1 := (Below.refl w.heap.size w).alloc (Nat.le_refl _) (.cells #[.int .i64 c.k, .int .i64 c.v, .int .i64 c.n, .slice p c.ps.length cap] 49)
  have hB2 := hB1.alloc hB1.size (.cells #[.int .i64 4, .int .i64 0, .int .i64 0, .slice (some ⟨w.heap.size + 1 + 1, 0, none⟩) 1 1] 49)
  have hB3 := hB2.alloc hB2.size (.cells #[.int .i64 c.k, .int .i64 c.v, .int .i64 c.n, .slice p c.ps.length cap] 49)
  have h1 := (HC.out.bel hB2).one 4 0 0
  simp only [World.size_alloc] at h1
  refine bodyPost_ret (v := .agg #[.int .i64 4, .int .i64 0, .int .i64 0, .slice (some ⟨w.heap.size + 1 + 1, 0, none⟩) 1 1]) ?_ rfl ⟨_, 1, rfl, h1.mono (fun b hb => hb.imp id fun h => by omega), hB3⟩
  simp [results, Tryz.results136, go_sem]
end Go.Proofs.YtdhdjfkknfbmhaaGreatDoor
