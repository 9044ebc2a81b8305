/- The parser of conditions and steps, as functions of lists of tokens. -/
import Derived.Test.YtdhdjfkknfbmhaaGreatDoorKLex
import Derived.Lib.AtoiAll
namespace Go.Proofs.YtdhdjfkknfbmhaaGreatDoor

/-- What a parser hands back: an error (its offset, its number), or a value and what is left. -/
inductive PR (α : Type)
  | err (at' : Nat) (e : Int)
  | ok (a : α) (r : List Tk)
namespace PR
def bind {α β : Type} (x : PR α) (f : α → List Tk → PR β) : PR β :=
  match x with
  | .err a e => .err a e
  | .ok a r => f a r
def map {α β : Type} (f : α → β) (x : PR α) : PR β := x.bind fun a r => .ok (f a) r
end PR
abbrev P (α : Type) := List Tk → PR α

/-- The offset of the next token. -/
def atS (l : List Tk) : Nat := match l with | [] => 0 | t :: _ => t.a
def failS {α : Type} (e : Int) (l : List Tk) : PR α := .err (atS l) e
/-- The next token is this word or sign. -/
def seesS (s : Bs) (l : List Tk) : Bool := match l with | [] => false | t :: _ => (t.k == 1 || t.k == 5) && t.t == s
def kindS (k : Int) (l : List Tk) : Bool := match l with | [] => false | t :: _ => t.k == k
def textS (l : List Tk) : Bs := match l with | [] => [] | t :: _ => t.t
/-- Takes these words and signs. -/
def expectS : List Bs → P Unit
  | [], l => .ok () l
  | s :: r, l => if seesS s l = true then expectS r l.tail else failS 60 l
/-- Which of several words or signs is the next token. -/
def idxS : List Bs → List Tk → Option Nat
  | [], _ => none
  | s :: r, l => if seesS s l = true then some 0 else (idxS r l).map (· + 1)
/-- Takes one of several words or signs. -/
def chooseS (ts : List Bs) (l : List Tk) : PR Nat :=
  match idxS ts l with
  | none => failS 60 l
  | some i => .ok i l.tail
/-- The number that an INT stands for, as strconv.Atoi has it. -/
def numV (l : List Tk) : Option Int :=
  if kindS 2 l = true then (match Lib.atoiAll (textS l) with | .ok n => if 0 ≤ n ∧ n ≤ 1125899906842624 then some n else none | _ => none) else none
def numberS (l : List Tk) : PR Int := match numV l with | some n => .ok n l.tail | none => failS 60 l

/-- A condition as it lies in memory. -/
inductive Cd
  | mk (kind var n : Int) (parts : List Cd)
def Cd.atLeast (v n : Int) : Cd := .mk 1 v n []
def wDistance : Bs := [100, 105, 115, 116, 97, 110, 99, 101]
def wField : Bs := [102, 105, 101, 108, 100]
def wShort : Bs := [115, 104, 111, 114, 116]
def wNot : Bs := [110, 111, 116]
def wAnd : Bs := [97, 110, 100]
def wOr : Bs := [111, 114]
def wIf : Bs := [105, 102]
def wElse : Bs := [101, 108, 115, 101]
def wOlder : Bs := [111, 108, 100, 101, 114]
def wYounger : Bs := [121, 111, 117, 110, 103, 101, 114]
def wWave : Bs := [119, 97, 118, 101]
def wBib : Bs := [98, 105, 98]
def wDraw : Bs := [100, 114, 97, 119]
def negatedS (c : Cd) : Cd := .mk 4 0 0 [c]
def comparedS (v : Nat) (c : Nat) (n : Int) : Cd :=
  if c = 1 then .atLeast v (n + 1) else if c = 2 then negatedS (.atLeast v (n + 1)) else if c = 3 then negatedS (.atLeast v n)
  else if c = 4 then .mk 2 0 0 [.atLeast v n, negatedS (.atLeast v (n + 1))] else .atLeast v n
def varWords : List Bs := [[], wDistance, wField, wShort]
def cmpSigns : List Bs := [[62, 61], [62], [60, 61], [60], [61]]

/-- What follows a first condition; the number is at least that of the tokens. -/
def moreS (word : Bs) (take : P Cd) : Nat → List Tk → List Cd → PR (List Cd)
  | 0, l, acc => .ok acc l
  | f + 1, l, acc => if seesS word l = true then (take l.tail).bind fun c r => moreS word take f r (acc ++ [c]) else .ok acc l
def oneS (kind : Int) (parts : List Cd) : Cd := match parts with | [c] => c | ps => .mk kind 0 0 ps
def joinedS (word : Bs) (kind : Int) (take : P Cd) : P Cd := fun l =>
  (take l).bind fun c r => (moreS word take r.length r [c]).map (oneS kind)
def condOf (u : P Cd) : P Cd := joinedS wOr 3 (joinedS wAnd 2 u)
def compS : P Cd := fun l => (chooseS varWords l).bind fun v l1 => (chooseS cmpSigns l1).bind fun c l2 => (numberS l2).map (comparedS v c)
/-- A unit, within so many fewer than sixteen `not` and `(`. -/
def unitS : Nat → P Cd
  | 0 => fun l => if seesS wNot l = true then failS 2 l else if seesS [40] l = true then failS 2 l else compS l
  | lv + 1 => fun l =>
    if seesS wNot l = true then (unitS lv l.tail).map negatedS
    else if seesS [40] l = true then (condOf (unitS lv) l.tail).bind fun c r => (expectS [[41]] r).map fun _ => c
    else compS l
def condS (lv : Nat) : P Cd := condOf (unitS lv)

/-- A step as it lies in memory. -/
inductive St
  | mk (kind by' : Int) (cond : Cd) (th el : List St)
def Cd.zero : Cd := .mk 0 0 0 []
def stepWordsS : List Bs := [wOlder, wYounger, wWave, wBib, wDraw]
def blockS (steps : P (List St)) : P (List St) := fun l => (expectS [[123]] l).bind fun _ r => (steps r).bind fun x r => (expectS [[125]] r).map fun _ => x
def byS : P St := fun l => (chooseS stepWordsS l).bind fun i r => (expectS [[59]] r).map fun _ => .mk 1 ((i : Int) + 1) .zero [] []
def stepWith (steps : Option (P (List St))) : P St := fun l =>
  if seesS wIf l = true then
    match steps with
    | none => failS 2 l
    | some steps => (condS 16 l.tail).bind fun c r => (blockS steps r).bind fun th r =>
      if seesS wElse r = true then (blockS steps r.tail).map fun el => .mk 2 0 c th el else .ok (.mk 2 0 c th []) r
  else byS l
def goesOn (l : List Tk) : Bool := seesS wIf l || stepWordsS.any fun s => seesS s l
def moreStepsS (step : P St) : Nat → List Tk → List St → PR (List St)
  | 0, l, acc => .ok acc l
  | f + 1, l, acc => if goesOn l = true then (step l).bind fun x r => moreStepsS step f r (acc ++ [x]) else .ok acc l
def stepsOf (step : P St) : P (List St) := fun l => (step l).bind fun x r => moreStepsS step r.length r [x]
def stepsS : Nat → P (List St)
  | 0 => stepsOf (stepWith none)
  | lv + 1 => stepsOf (stepWith (some (stepsS lv)))

def endS {α : Type} (x : PR α) : PR α := x.bind fun a r => if kindS 6 r = true then .ok a r else failS 60 r
/-- What reading a text comes to: a value, or an offset and an error. -/
inductive Read (α : Type)
  | no (at' : Nat) (e : Int)
  | yes (a : α)
def readS {α : Type} (parse : P α) (src : Bs) : Read α :=
  if 65536 < src.length then .no 0 2
  else match (tokens src).2 with
    | b :: _ => .no b 50
    | [] => match endS (parse (tokens src).1) with
      | .err a e => .no a e
      | .ok a _ => .yes a

/- Each parser leaves no more than there was. -/
def Less {α : Type} (p : P α) : Prop := ∀ l a r, p l = .ok a r → r.length ≤ l.length
theorem bind_ok {α β : Type} {x : PR α} {f : α → List Tk → PR β} {b : β} {r : List Tk} (h : x.bind f = .ok b r) : ∃ a r1, x = .ok a r1 ∧ f a r1 = .ok b r := by
  cases x with
  | err a e => simp [PR.bind] at h
  | ok a r1 => exact ⟨a, r1, rfl, h⟩
theorem map_ok {α β : Type} {x : PR α} {f : α → β} {b : β} {r : List Tk} (h : x.map f = .ok b r) : ∃ a, x = .ok a r ∧ f a = b := by
  obtain ⟨a, r1, h1, h2⟩ := bind_ok h
  cases h2
  exact ⟨a, h1, rfl⟩
theorem expect_less : ∀ (ts : List Bs), Less (expectS ts)
  | [], l, a, r, h => by cases h; exact Nat.le_refl _
  | s :: ts, l, a, r, h => by
    rw [expectS] at h
    split at h
    · have := expect_less ts _ _ _ h
      rw [List.length_tail] at this; omega
    · cases h
theorem choose_less (ts : List Bs) : Less (chooseS ts) := by
  intro l a r h
  unfold chooseS at h
  split at h
  · cases h
  · cases h; rw [List.length_tail]; omega
theorem number_less : Less numberS := by
  intro l a r h
  unfold numberS at h
  split at h
  · cases h; rw [List.length_tail]; omega
  · cases h
theorem more_less {word : Bs} {take : P Cd} (ht : Less take) : ∀ (f : Nat) (l : List Tk) (acc a : List Cd) (r : List Tk), moreS word take f l acc = .ok a r → r.length ≤ l.length
  | 0, l, acc, a, r, h => by cases h; exact Nat.le_refl _
  | f + 1, l, acc, a, r, h => by
    rw [moreS] at h
    split at h
    · obtain ⟨c, r1, h1, h2⟩ := bind_ok h
      have a1 := ht _ _ _ h1
      have a2 := more_less ht f _ _ _ _ h2
      rw [List.length_tail] at a1; omega
    · cases h; exact Nat.le_refl _
theorem joined_less {word : Bs} {kind : Int} {take : P Cd} (ht : Less take) : Less (joinedS word kind take) := by
  intro l a r h
  obtain ⟨c, r1, h1, h2⟩ := bind_ok h
  obtain ⟨ps, h3, _⟩ := map_ok h2
  have a1 := ht _ _ _ h1
  have a2 := more_less ht _ _ _ _ _ h3
  omega
theorem condOf_less {u : P Cd} (hu : Less u) : Less (condOf u) := joined_less (joined_less hu)
theorem comp_less : Less compS := by
  intro l a r h
  obtain ⟨v, r1, h1, h2⟩ := bind_ok h
  obtain ⟨c, r2, h3, h4⟩ := bind_ok h2
  obtain ⟨n, h5, _⟩ := map_ok h4
  have a1 := choose_less _ _ _ _ h1
  have a2 := choose_less _ _ _ _ h3
  have a3 := number_less _ _ _ h5
  omega
theorem unit_less : ∀ lv, Less (unitS lv)
  | 0 => by
    intro l a r h
    rw [unitS] at h
    dsimp only at h
    split at h
    · cases h
    · split at h
      · cases h
      · exact comp_less _ _ _ h
  | lv + 1 => by
    intro l a r h
    rw [unitS] at h
    dsimp only at h
    split at h
    · obtain ⟨c, h1, _⟩ := map_ok h
      have := unit_less lv _ _ _ h1
      rw [List.length_tail] at this; omega
    · split at h
      · obtain ⟨c, r1, h1, h2⟩ := bind_ok h
        obtain ⟨_, h3, _⟩ := map_ok h2
        have a1 := condOf_less (unit_less lv) _ _ _ h1
        have a2 := expect_less _ _ _ _ h3
        rw [List.length_tail] at a1; omega
      · exact comp_less _ _ _ h
theorem cond_less (lv : Nat) : Less (condS lv) := condOf_less (unit_less lv)
end Go.Proofs.YtdhdjfkknfbmhaaGreatDoor
