/- Conditions, steps and forms in memory. -/
import Derived.Test.YtabdgnigmlpeaaaGreatDoorTBase
namespace Go.Proofs.YtabdgnigmlpeaaaGreatDoor
open Go.RowKit

/-- A condition as Go has it; its parts lie at p. -/
def cV (c : Cd) (p : Option Addr) (cap : Nat) : Value := .agg #[.int .i64 c.k, .int .i64 c.v, .int .i64 c.n, .slice p c.ps.length cap]
/-- The condition c, whose parts are the slice at p with room cap, lies in memory, in blocks of which Q holds. -/
inductive CdIn (w : World) (Q : Nat → Prop) : Cd → Option Addr → Nat → Prop
  | mk (k v n : Int) (ps : List Cd) (p : Option Addr) (cap b off : Nat) (P : Nat → Option Addr) (C : Nat → Nat)
      (hl : ps.length ≤ 6000000000000) (hc : ps.length ≤ cap) (hc2 : cap ≤ 9223372036854775807) (hp : p = none → cap = 0)
      (hb : ps ≠ [] → p = some ⟨b, off, none⟩ ∧ Q b ∧ b < w.heap.size)
      (hcell : ∀ i (h : i < ps.length), w.cell? ⟨b, off + i * 4, none⟩ = some (.int .i64 ps[i].k) ∧ w.cell? ⟨b, off + i * 4 + 1, none⟩ = some (.int .i64 ps[i].v) ∧
        w.cell? ⟨b, off + i * 4 + 2, none⟩ = some (.int .i64 ps[i].n) ∧ w.cell? ⟨b, off + i * 4 + 3, none⟩ = some (.slice (P i) ps[i].ps.length (C i)))
      (hsub : ∀ i (h : i < ps.length), CdIn w Q ps[i] (P i) (C i)) : CdIn w Q (.mk k v n ps) p cap
theorem CdIn.keep2 {w w' : World} {Q Q' : Nat → Prop} {c : Cd} {p : Option Addr} {cap : Nat} (h : CdIn w Q c p cap) (hs : w.heap.size ≤ w'.heap.size) (hk : ∀ b, Q b → b < w.heap.size → Q' b ∧ w'.heap[b]? = w.heap[b]?) : CdIn w' Q' c p cap := by
  induction h with
  | mk k v n ps p cap b off P C hl hc hc2 hp hb hcell hsub ih =>
    refine .mk k v n ps p cap b off P C hl hc hc2 hp (fun hne => ⟨(hb hne).1, (hk b (hb hne).2.1 (hb hne).2.2).1, Nat.lt_of_lt_of_le (hb hne).2.2 hs⟩) (fun i hi => ?_) ih
    obtain ⟨_, h1, h2⟩ := hb (by rintro rfl; simp at hi)
    have hh := fun o => World.cell?_of_block (a := ⟨b, o, none⟩) (hk b h1 h2).2
    obtain ⟨c1, c2, c3, c4⟩ := hcell i hi
    exact ⟨(hh _).trans c1, (hh _).trans c2, (hh _).trans c3, (hh _).trans c4⟩
theorem CdIn.mono {w : World} {Q Q' : Nat → Prop} {c : Cd} {p : Option Addr} {cap : Nat} (h : CdIn w Q c p cap) (hq : ∀ b, Q b → Q' b) : CdIn w Q' c p cap := h.keep2 (Nat.le_refl _) fun b hb _ => ⟨hq b hb, rfl⟩
theorem CdIn.bel {w w' : World} {Q : Nat → Prop} {c : Cd} {p : Option Addr} {cap : Nat} (h : CdIn w Q c p cap) (hb : Below w.heap.size w w') : CdIn w' Q c p cap := h.keep2 hb.size fun b h1 hl => ⟨h1, hb.block b hl⟩
theorem CdIn.leaf {w : World} {Q : Nat → Prop} {k v n : Int} : CdIn w Q (.mk k v n []) none 0 :=
  .mk k v n [] none 0 0 0 (fun _ => none) (fun _ => 0) (by simp) (by simp) (by simp) (fun _ => rfl) (fun h => absurd rfl h) (fun i h => by simp at h) (fun i h => by simp at h)

/-- Where the lists of a step lie, and their room: those of the condition, of Then and of Else. -/
structure Loc where
  pc : Option Addr
  cc : Nat
  pt : Option Addr
  ct : Nat
  pe : Option Addr
  ce : Nat
def cellsS (s : St) (x : Loc) : List Value := [.int .i64 s.k, .int .i64 s.b, .int .i64 s.c.k, .int .i64 s.c.v, .int .i64 s.c.n, .slice x.pc s.c.ps.length x.cc, .slice x.pt s.th.length x.ct, .slice x.pe s.el.length x.ce]
/-- The steps are the slice at p with room cap, in blocks of which Q holds. -/
inductive SsIn (w : World) (Q : Nat → Prop) : List St → Option Addr → Nat → Prop
  | mk (ss : List St) (p : Option Addr) (cap b off : Nat) (X : Nat → Loc)
      (hl : ss.length ≤ 6000000000000) (hc : ss.length ≤ cap) (hc2 : cap ≤ 9223372036854775807) (hp : p = none → cap = 0)
      (hb : ss ≠ [] → p = some ⟨b, off, none⟩ ∧ Q b ∧ b < w.heap.size)
      (hcell : ∀ i (h : i < ss.length) j u, (cellsS ss[i] (X i))[j]? = some u → w.cell? ⟨b, off + i * 8 + j, none⟩ = some u)
      (hcd : ∀ i (h : i < ss.length), CdIn w Q ss[i].c (X i).pc (X i).cc)
      (hth : ∀ i (h : i < ss.length), SsIn w Q ss[i].th (X i).pt (X i).ct)
      (hel : ∀ i (h : i < ss.length), SsIn w Q ss[i].el (X i).pe (X i).ce) : SsIn w Q ss p cap
theorem SsIn.keep2 {w w' : World} {Q Q' : Nat → Prop} {ss : List St} {p : Option Addr} {cap : Nat} (h : SsIn w Q ss p cap) (hs : w.heap.size ≤ w'.heap.size) (hk : ∀ b, Q b → b < w.heap.size → Q' b ∧ w'.heap[b]? = w.heap[b]?) : SsIn w' Q' ss p cap := by
  induction h with
  | mk ss p cap b off X hl hc hc2 hp hb hcell hcd hth hel ih1 ih2 =>
    refine .mk ss p cap b off X hl hc hc2 hp (fun hne => ⟨(hb hne).1, (hk b (hb hne).2.1 (hb hne).2.2).1, Nat.lt_of_lt_of_le (hb hne).2.2 hs⟩) (fun i hi j u hu => ?_) (fun i hi => (hcd i hi).keep2 hs hk) ih1 ih2
    obtain ⟨_, h1, h2⟩ := hb (by rintro rfl; simp at hi)
    exact (World.cell?_of_block (a := ⟨b, _, none⟩) (hk b h1 h2).2).trans (hcell i hi j u hu)
theorem SsIn.bel {w w' : World} {Q : Nat → Prop} {ss : List St} {p : Option Addr} {cap : Nat} (h : SsIn w Q ss p cap) (hb : Below w.heap.size w w') : SsIn w' Q ss p cap := h.keep2 hb.size fun b h1 hl => ⟨h1, hb.block b hl⟩
theorem SsIn.nil {w : World} {Q : Nat → Prop} : SsIn w Q [] none 0 :=
  .mk [] none 0 0 0 (fun _ => ⟨none, 0, none, 0, none, 0⟩) (by simp) (by simp) (by simp) (fun _ => rfl) (fun h => absurd rfl h) (fun i h => by simp at h) (fun i h => by simp at h) (fun i h => by simp at h) (fun i h => by simp at h)
/-- What a step refers to lies in memory. -/
structure StIn (w : World) (Q : Nat → Prop) (s : St) (x : Loc) : Prop where
  cd : CdIn w Q s.c x.pc x.cc
  th : SsIn w Q s.th x.pt x.ct
  el : SsIn w Q s.el x.pe x.ce
theorem StIn.keep2 {w w' : World} {Q Q' : Nat → Prop} {s : St} {x : Loc} (h : StIn w Q s x) (hs : w.heap.size ≤ w'.heap.size) (hk : ∀ b, Q b → b < w.heap.size → Q' b ∧ w'.heap[b]? = w.heap[b]?) : StIn w' Q' s x :=
  ⟨h.cd.keep2 hs hk, h.th.keep2 hs hk, h.el.keep2 hs hk⟩

/- Forms. -/
/-- How a list lies: n elements from the cell off of block b on. -/
structure Lies (w : World) (Q : Nat → Prop) (n : Nat) (p : Option Addr) (cap b off : Nat) : Prop where
  hl : n ≤ 6000000000000
  hc : n ≤ cap
  hc2 : cap ≤ 9223372036854775807
  hp : p = none → cap = 0
  hb : n ≠ 0 → p = some ⟨b, off, none⟩ ∧ Q b ∧ b < w.heap.size
theorem Lies.keep2 {w w' : World} {Q Q' : Nat → Prop} {n : Nat} {p : Option Addr} {cap b off : Nat} (h : Lies w Q n p cap b off) (hs : w.heap.size ≤ w'.heap.size) (hk : ∀ b, Q b → b < w.heap.size → Q' b ∧ w'.heap[b]? = w.heap[b]?) : Lies w' Q' n p cap b off :=
  ⟨h.hl, h.hc, h.hc2, h.hp, fun hne => ⟨(h.hb hne).1, (hk b (h.hb hne).2.1 (h.hb hne).2.2).1, Nat.lt_of_lt_of_le (h.hb hne).2.2 hs⟩⟩
mutual
/-- The value is the form, whose lists lie in memory. -/
def FmIn (w : World) (Q : Nat → Prop) : Fm → Value → Prop
  | .atl v n, x => x = .iface 173 (.agg #[.int .i64 v, .int .i64 n])
  | .all l, x => ∃ p cap b off, x = .iface 176 (.agg #[.slice p l.length cap]) ∧ Lies w Q l.length p cap b off ∧ FsAt w Q b off l
  | .one l, x => ∃ p cap b off, x = .iface 179 (.agg #[.slice p l.length cap]) ∧ Lies w Q l.length p cap b off ∧ FsAt w Q b off l
  | .neg f, x => ∃ y, x = .iface 181 (.agg #[y]) ∧ FmIn w Q f y
  | .crit b, x => x = .iface 167 (.agg #[.int .i64 b])
  | .bran c th el, x => ∃ y p cap b off p2 cap2 b2 off2, x = .iface 169 (.agg #[y, .slice p th.length cap, .slice p2 el.length cap2]) ∧ FmIn w Q c y ∧
      (Lies w Q th.length p cap b off ∧ FsAt w Q b off th) ∧ Lies w Q el.length p2 cap2 b2 off2 ∧ FsAt w Q b2 off2 el
  | .mis, x => x = .iface 213 (.agg #[])
/-- The forms lie from the cell off of block b on. -/
def FsAt (w : World) (Q : Nat → Prop) (b off : Nat) : List Fm → Prop
  | [] => True
  | f :: l => (∃ y, w.cell? ⟨b, off, none⟩ = some y ∧ FmIn w Q f y) ∧ FsAt w Q b (off + 1) l
end
/-- The forms are a slice. -/
def FsIn (w : World) (Q : Nat → Prop) (l : List Fm) (p : Option Addr) (cap : Nat) : Prop := ∃ b off, Lies w Q l.length p cap b off ∧ FsAt w Q b off l
mutual
theorem FmIn.keep2 {w w' : World} {Q Q' : Nat → Prop} (hs : w.heap.size ≤ w'.heap.size) (hk : ∀ b, Q b → b < w.heap.size → Q' b ∧ w'.heap[b]? = w.heap[b]?) : ∀ (f : Fm) (x : Value), FmIn w Q f x → FmIn w' Q' f x
  | .atl v n, x, h => by rw [FmIn] at h ⊢; exact h
  | .all l, x, h => by
    rw [FmIn] at h ⊢
    obtain ⟨p, cap, b, off, e, h1, h2⟩ := h
    exact ⟨p, cap, b, off, e, h1.keep2 hs hk, FsAt.keep2 hs hk l b off (fun hne => h1.hb (by simpa using hne)) h2⟩
  | .one l, x, h => by
    rw [FmIn] at h ⊢
    obtain ⟨p, cap, b, off, e, h1, h2⟩ := h
    exact ⟨p, cap, b, off, e, h1.keep2 hs hk, FsAt.keep2 hs hk l b off (fun hne => h1.hb (by simpa using hne)) h2⟩
  | .neg f, x, h => by
    rw [FmIn] at h ⊢
    obtain ⟨y, e, h1⟩ := h
    exact ⟨y, e, FmIn.keep2 hs hk f y h1⟩
  | .crit b, x, h => by rw [FmIn] at h ⊢; exact h
  | .bran c th el, x, h => by
    rw [FmIn] at h ⊢
    obtain ⟨y, p, cap, b, off, p2, cap2, b2, off2, e, h1, ⟨h2, h3⟩, h4, h5⟩ := h
    exact ⟨y, p, cap, b, off, p2, cap2, b2, off2, e, FmIn.keep2 hs hk c y h1, ⟨h2.keep2 hs hk, FsAt.keep2 hs hk th b off (fun hne => h2.hb (by simpa using hne)) h3⟩, h4.keep2 hs hk, FsAt.keep2 hs hk el b2 off2 (fun hne => h4.hb (by simpa using hne)) h5⟩
  | .mis, x, h => by rw [FmIn] at h ⊢; exact h
theorem FsAt.keep2 {w w' : World} {Q Q' : Nat → Prop} (hs : w.heap.size ≤ w'.heap.size) (hk : ∀ b, Q b → b < w.heap.size → Q' b ∧ w'.heap[b]? = w.heap[b]?) : ∀ (l : List Fm) (b off : Nat) {p : Option Addr} {a : Addr}, (l ≠ [] → p = some a ∧ Q b ∧ b < w.heap.size) → FsAt w Q b off l → FsAt w' Q' b off l
  | [], b, off, p, a, _, _ => by rw [FsAt]; trivial
  | f :: l, b, off, p, a, hb, h => by
    rw [FsAt] at h ⊢
    obtain ⟨⟨y, h1, h2⟩, h3⟩ := h
    obtain ⟨h5, h6, h7⟩ := hb (by simp)
    exact ⟨⟨y, (World.cell?_of_block (a := ⟨b, off, none⟩) (hk b h6 h7).2).trans h1, FmIn.keep2 hs hk f y h2⟩, FsAt.keep2 hs hk l b (off + 1) (fun _ => ⟨h5, h6, h7⟩) h3⟩
end
theorem FsIn.keep2 {w w' : World} {Q Q' : Nat → Prop} {l : List Fm} {p : Option Addr} {cap : Nat} (h : FsIn w Q l p cap) (hs : w.heap.size ≤ w'.heap.size) (hk : ∀ b, Q b → b < w.heap.size → Q' b ∧ w'.heap[b]? = w.heap[b]?) : FsIn w' Q' l p cap := by
  obtain ⟨b, off, h1, h2⟩ := h
  exact ⟨b, off, h1.keep2 hs hk, FsAt.keep2 hs hk l b off (fun hne => h1.hb (by simpa using hne)) h2⟩
theorem FmIn.bel {w w' : World} {Q : Nat → Prop} {f : Fm} {x : Value} (h : FmIn w Q f x) (hb : Below w.heap.size w w') : FmIn w' Q f x := FmIn.keep2 hb.size (fun b h1 hl => ⟨h1, hb.block b hl⟩) f x h
theorem FsIn.bel {w w' : World} {Q : Nat → Prop} {l : List Fm} {p : Option Addr} {cap : Nat} (h : FsIn w Q l p cap) (hb : Below w.heap.size w w') : FsIn w' Q l p cap := h.keep2 hb.size fun b h1 hl => ⟨h1, hb.block b hl⟩
theorem FsAt.get {w : World} {Q : Nat → Prop} {b : Nat} : ∀ (l : List Fm) (off : Nat), FsAt w Q b off l → ∀ i (h : i < l.length), ∃ y, w.cell? ⟨b, off + i, none⟩ = some y ∧ FmIn w Q l[i] y
  | [], off, _, i, h => by simp at h
  | f :: l, off, h, i, hi => by
    rw [FsAt] at h
    cases i with
    | zero => exact h.1
    | succ i =>
      have := FsAt.get l (off + 1) h.2 i (by simpa using hi)
      rw [show off + (i + 1) = off + 1 + i by omega]
      simpa using this
theorem FsAt.of {w : World} {Q : Nat → Prop} {b : Nat} : ∀ (l : List Fm) (off : Nat), (∀ i (h : i < l.length), ∃ y, w.cell? ⟨b, off + i, none⟩ = some y ∧ FmIn w Q l[i] y) → FsAt w Q b off l
  | [], off, _ => by rw [FsAt]; trivial
  | f :: l, off, h => by
    rw [FsAt]
    refine ⟨h 0 (by simp), FsAt.of l (off + 1) fun i hi => ?_⟩
    have := h (i + 1) (by simpa using hi)
    rw [show off + (i + 1) = off + 1 + i by omega] at this
    simpa using this
/-- A place is handed back: one that is not negative, if b. -/
def FoundS (b : Bool) (e : Ending) : Prop := ∃ r : Int, e = .returned (.int .i64 r) ∧ decide (0 ≤ r) = b
end Go.Proofs.YtabdgnigmlpeaaaGreatDoor
