/- Conditions and steps: what they are, when they are valid, and what they mean, as functions. -/
namespace Go.Proofs.YtabdgnigmlpeaaaGreatDoor

/-- A condition as it lies in memory. -/
inductive Cd
  | mk (kind var n : Int) (parts : List Cd)
def Cd.k : Cd → Int | .mk k _ _ _ => k
def Cd.v : Cd → Int | .mk _ v _ _ => v
def Cd.n : Cd → Int | .mk _ _ n _ => n
def Cd.ps : Cd → List Cd | .mk _ _ _ ps => ps
def Cd.zero : Cd := .mk 0 0 0 []
/-- A step as it lies in memory. -/
inductive St
  | mk (kind by' : Int) (cond : Cd) (th el : List St)
def St.k : St → Int | .mk k _ _ _ _ => k
def St.b : St → Int | .mk _ b _ _ _ => b
def St.c : St → Cd | .mk _ _ c _ _ => c
def St.th : St → List St | .mk _ _ _ t _ => t
def St.el : St → List St | .mk _ _ _ _ e => e

/-- A search with a state: the first element for which f says true ends it. -/
def anyS {α σ : Type} (f : σ → α → Bool × σ) : σ → List α → Bool × σ
  | s, [] => (false, s)
  | s, x :: l => if (f s x).1 = true then (true, (f s x).2) else anyS f (f s x).2 l
def allS {α σ : Type} (f : σ → α → Bool × σ) : σ → List α → Bool × σ
  | s, [] => (true, s)
  | s, x :: l => if (f s x).1 = true then allS f (f s x).2 l else (false, (f s x).2)
def notS {α σ : Type} (f : σ → α → Bool × σ) : σ → α → Bool × σ := fun s x => (!(f s x).1, (f s x).2)
theorem all_any {α σ : Type} (f : σ → α → Bool × σ) : ∀ (l : List α) (s : σ), allS f s l = (!(anyS (notS f) s l).1, (anyS (notS f) s l).2)
  | [], s => rfl
  | x :: l, s => by
    rw [allS, anyS]
    cases h : (f s x).1 with
    | true => simp only [notS, h, if_true]; rw [all_any f l]; simp
    | false => simp [notS, h]
theorem allS_pure {α : Type} (p : α → Bool) : ∀ (l : List α), allS (fun (s : Unit) x => (p x, s)) () l = (l.all p, ())
  | [] => rfl
  | x :: l => by
    rw [allS]
    cases h : p x with
    | true => simp only [if_true]; rw [allS_pure p l]; simp [h]
    | false => simp [h]
theorem anyS_pure {α : Type} (p : α → Bool) : ∀ (l : List α), anyS (fun (s : Unit) x => (p x, s)) () l = (l.any p, ())
  | [] => rfl
  | x :: l => by
    rw [anyS]
    cases h : p x with
    | false => simp only [Bool.false_eq_true, if_false]; rw [anyS_pure p l]; simp [h]
    | true => simp [h]

/- The limits, as the program counts. -/
mutual
/-- The parts of a condition at the depth d. -/
def fitC (d : Nat) (left : Int) : Cd → Bool × Int
  | .mk _ _ _ ps => if left - ps.length < 0 ∨ ps ≠ [] ∧ 16 < d + 1 then (false, left - ps.length) else fitCs (d + 1) (left - ps.length) ps
def fitCs (d : Nat) (left : Int) : List Cd → Bool × Int
  | [] => (true, left)
  | c :: l => if (fitC d left c).1 = true then fitCs d (fitC d left c).2 l else (false, (fitC d left c).2)
end
/-- limited, of conditions. -/
def fitL (d : Nat) (left : Int) (l : List Cd) : Bool × Int := if left - l.length < 0 ∨ l ≠ [] ∧ 16 < d then (false, left - l.length) else fitCs d (left - l.length) l
theorem fitC_eq (d : Nat) (left : Int) (c : Cd) : fitC d left c = fitL (d + 1) left c.ps := by
  obtain ⟨k, v, n, ps⟩ := c
  rw [fitC, fitL]; rfl
theorem fitCs_eq (d : Nat) : ∀ (l : List Cd) (left : Int), fitCs d left l = allS (fitC d) left l
  | [], left => by rw [fitCs, allS]
  | c :: l, left => by rw [fitCs, allS, fitCs_eq d l]
mutual
def fitS (d : Nat) (left : Int) : St → Bool × Int
  | .mk _ _ _ th el =>
    if left - th.length < 0 ∨ th ≠ [] ∧ 16 < d + 1 then (false, left - th.length)
    else if (fitSs (d + 1) (left - th.length) th).1 = true then
      (if (fitSs (d + 1) (left - th.length) th).2 - el.length < 0 ∨ el ≠ [] ∧ 16 < d + 1 then (false, (fitSs (d + 1) (left - th.length) th).2 - el.length)
      else fitSs (d + 1) ((fitSs (d + 1) (left - th.length) th).2 - el.length) el)
    else (false, (fitSs (d + 1) (left - th.length) th).2)
def fitSs (d : Nat) (left : Int) : List St → Bool × Int
  | [] => (true, left)
  | c :: l => if (fitS d left c).1 = true then fitSs d (fitS d left c).2 l else (false, (fitS d left c).2)
end
/-- limited, of steps. -/
def fitT (d : Nat) (left : Int) (l : List St) : Bool × Int := if left - l.length < 0 ∨ l ≠ [] ∧ 16 < d then (false, left - l.length) else fitSs d (left - l.length) l
theorem fitS_eq (d : Nat) (left : Int) (s : St) : fitS d left s = allS (fun left l => fitT (d + 1) left l) left [s.th, s.el] := by
  obtain ⟨k, b, c, th, el⟩ := s
  show _ = allS (fun left l => fitT (d + 1) left l) left [th, el]
  rw [fitS]
  simp only [allS, fitT]
  by_cases h1 : left - th.length < 0 ∨ th ≠ [] ∧ 16 < d + 1
  · simp only [if_pos h1, Bool.false_eq_true, if_false]
  · simp only [if_neg h1]
    cases h : fitSs (d + 1) (left - th.length) th with
    | mk x y =>
      cases x with
      | false => simp only [Bool.false_eq_true, if_false]
      | true =>
        simp only [if_true]
        by_cases h2 : y - el.length < 0 ∨ el ≠ [] ∧ 16 < d + 1
        · simp only [if_pos h2, Bool.false_eq_true, if_false]
        · simp only [if_neg h2]
          cases h3 : fitSs (d + 1) (y - el.length) el with
          | mk x y => cases x <;> rfl
theorem fitSs_eq (d : Nat) : ∀ (l : List St) (left : Int), fitSs d left l = allS (fitS d) left l
  | [], left => by rw [fitSs, allS]
  | c :: l, left => by rw [fitSs, allS, fitSs_eq d l]

/- The forms. -/
inductive Fm
  | atl (v n : Int)
  | all (l : List Fm)
  | one (l : List Fm)
  | neg (f : Fm)
  | crit (b : Int)
  | bran (c : Fm) (th el : List Fm)
  | mis
def leafB (c : Cd) : Bool := c.k == 1 && c.ps.isEmpty
def noB (c : Cd) : Bool := c.k == 0 && (c.v == 0 && (c.n == 0 && c.ps.isEmpty))
mutual
def formC : Cd → Fm
  | .mk k v n ps =>
    if k = 1 ∧ ps = [] then .atl v n
    else if k = 2 ∧ v = 0 ∧ n = 0 then .all (formCs ps)
    else if k = 3 ∧ v = 0 ∧ n = 0 then .one (formCs ps)
    else if k = 4 ∧ v = 0 ∧ n = 0 ∧ ps.length = 1 then (match formCs ps with | [f] => .neg f | _ => .mis)
    else .mis
def formCs : List Cd → List Fm
  | [] => []
  | c :: l => formC c :: formCs l
end
theorem formCs_eq : ∀ l : List Cd, formCs l = l.map formC
  | [] => by rw [formCs]; rfl
  | c :: l => by rw [formCs, formCs_eq l]; rfl
mutual
def formS : St → Fm
  | .mk k b c th el =>
    if k = 1 ∧ noB c = true ∧ th = [] ∧ el = [] then .crit b
    else if k = 2 ∧ b = 0 then .bran (formC c) (formSs th) (formSs el)
    else .mis
def formSs : List St → List Fm
  | [] => []
  | c :: l => formS c :: formSs l
end
theorem formSs_eq : ∀ l : List St, formSs l = l.map formS
  | [] => by rw [formSs]; rfl
  | c :: l => by rw [formSs, formSs_eq l]; rfl
mutual
def rngF : Fm → Bool
  | .atl v n => decide (1 ≤ v ∧ v ≤ 3) && decide (0 ≤ n ∧ n ≤ 10000)
  | .all l => decide (1 ≤ l.length ∧ l.length ≤ 16) && rngFs l
  | .one l => decide (1 ≤ l.length ∧ l.length ≤ 16) && rngFs l
  | .neg f => rngF f
  | .crit b => decide (1 ≤ b ∧ b ≤ 5)
  | .bran c th el => rngF c && (!th.isEmpty && rngFs th) && rngFs el
  | .mis => false
def rngFs : List Fm → Bool
  | [] => true
  | f :: l => rngF f && rngFs l
end
theorem rngFs_eq : ∀ l : List Fm, rngFs l = l.all rngF
  | [] => by rw [rngFs]; rfl
  | c :: l => by rw [rngFs, rngFs_eq l]; rfl
/-- An environment: distance, field, short. -/
structure En where
  d : Int
  f : Int
  s : Int
def En.ok (x : En) : Bool := decide (0 ≤ x.d ∧ x.d ≤ 7) && (decide (0 ≤ x.f ∧ x.f ≤ 4000) && decide (0 ≤ x.s ∧ x.s ≤ 1))
def valE (v : Int) (x : En) : Int := if v = 1 then x.d else if v = 2 then x.f else if v = 3 then x.s else 0
mutual
def holdF (x : En) : Fm → Bool
  | .atl v n => decide (n ≤ valE v x)
  | .all l => holdA x l
  | .one l => holdO x l
  | .neg f => !holdF x f
  | .crit _ => false
  | .bran _ _ _ => false
  | .mis => false
def holdA (x : En) : List Fm → Bool
  | [] => true
  | f :: l => holdF x f && holdA x l
def holdO (x : En) : List Fm → Bool
  | [] => false
  | f :: l => holdF x f || holdO x l
end
theorem holdA_eq (x : En) : ∀ l : List Fm, holdA x l = l.all (holdF x)
  | [] => by rw [holdA]; rfl
  | c :: l => by rw [holdA, holdA_eq x l]; rfl
theorem holdO_eq (x : En) : ∀ l : List Fm, holdO x l = l.any (holdF x)
  | [] => by rw [holdO]; rfl
  | c :: l => by rw [holdO, holdO_eq x l]; rfl
mutual
def appF (x : En) (by' : List Int) : Fm → List Int
  | .crit b => if by'.contains b = true then by' else by' ++ [b]
  | .bran c th el => if holdF x c = true then appFs x by' th else appFs x by' el
  | _ => by'
def appFs (x : En) (by' : List Int) : List Fm → List Int
  | [] => by'
  | f :: l => appFs x (appF x by' f) l
end
/- What the functions of typing return. -/
mutual
def condsOf : St → List Cd
  | .mk _ _ c th el => (if noB c = true then [] else [c]) ++ (condsOfs th ++ condsOfs el)
def condsOfs : List St → List Cd
  | [] => []
  | s :: l => condsOf s ++ condsOfs l
end
theorem condsOfs_append : ∀ (a b : List St), condsOfs (a ++ b) = condsOfs a ++ condsOfs b
  | [], b => by rw [condsOfs]; rfl
  | s :: a, b => by rw [List.cons_append, condsOfs, condsOfs, condsOfs_append a b, List.append_assoc]
def condE (c : Cd) : Int := if (fitL 0 256 [c]).1 = false then 2 else if rngF (formC c) = true then 0 else 71
def stepsOk (l : List Fm) : Bool := !l.isEmpty && l.all rngF
def tiesE (l : List St) : Int := if (fitT 0 64 l).1 = false ∨ (fitL 0 256 (condsOfs l)).1 = false then 2 else if stepsOk (l.map formS) = true then 0 else 71
def envE (x : En) : Int := if x.ok = true then 0 else 1

/- The specification's way. -/
mutual
def cntC (d : Nat) : Cd → Nat
  | .mk _ _ _ ps => if 16 < d then 1000 else cntCs (d + 1) 1 ps
def cntCs (d n : Nat) : List Cd → Nat
  | [] => n
  | c :: l => if n ≤ 256 then cntCs d (n + cntC d c) l else n
end
mutual
def okC : Cd → Bool
  | .mk k v n ps =>
    if k = 1 then decide (1 ≤ v ∧ v ≤ 3) && (decide (0 ≤ n ∧ n ≤ 10000) && ps.isEmpty)
    else if k = 2 ∨ k = 3 then decide (1 ≤ ps.length ∧ ps.length ≤ 16) && (decide (v = 0 ∧ n = 0) && okCs ps)
    else if k = 4 then decide (ps.length = 1) && (decide (v = 0 ∧ n = 0) && okCs ps)
    else false
def okCs : List Cd → Bool
  | [] => true
  | c :: l => okC c && okCs l
end
theorem okCs_eq : ∀ l : List Cd, okCs l = l.all okC
  | [] => by rw [okCs]; rfl
  | c :: l => by rw [okCs, okCs_eq l]; rfl
def rCond (c : Cd) : Int := if 256 < cntC 0 c then 2 else if okC c = true then 0 else 71
mutual
/-- How many steps, and how many conditions. -/
def sizS (d : Nat) : St → Nat × Nat
  | .mk _ _ c th el =>
    let a := if th ≠ [] ∧ 16 < d + 1 then (1000, 1000) else sizSs (d + 1) 0 0 th
    let b := if el ≠ [] ∧ 16 < d + 1 then (1000, 1000) else sizSs (d + 1) 0 0 el
    (1 + a.1 + b.1, a.2 + b.2 + if noB c = true then 0 else cntC 0 c)
def sizSs (d n m : Nat) : List St → Nat × Nat
  | [] => (n, m)
  | s :: l => if n ≤ 64 ∧ m ≤ 256 then sizSs d (n + (sizS d s).1) (m + (sizS d s).2) l else (n, m)
end
def sizL (d : Nat) (l : List St) : Nat × Nat := if l ≠ [] ∧ 16 < d then (1000, 1000) else sizSs d 0 0 l
mutual
def okS : St → Bool
  | .mk k b c th el =>
    if k = 1 then decide (1 ≤ b ∧ b ≤ 5) && (noB c && (th.isEmpty && el.isEmpty))
    else if k = 2 then decide (b = 0) && (decide (rCond c = 0) && (!th.isEmpty && (okSs th && okSs el)))
    else false
def okSs : List St → Bool
  | [] => true
  | s :: l => okS s && okSs l
end
def rTies (l : List St) : Int := if 64 < (sizL 0 l).1 ∨ 256 < (sizL 0 l).2 then 2 else if !l.isEmpty && okSs l then 0 else 71
mutual
def rHold (x : En) : Cd → Bool
  | .mk k v n ps => if k = 1 then decide (n ≤ valE v x) else if k = 4 then !rHoldA x ps else if k = 2 then rHoldA x ps else rHoldO x ps
def rHoldA (x : En) : List Cd → Bool
  | [] => true
  | c :: l => rHold x c && rHoldA x l
def rHoldO (x : En) : List Cd → Bool
  | [] => false
  | c :: l => rHold x c || rHoldO x l
end
mutual
def rApp (x : En) (by' : List Int) : St → List Int
  | .mk k b c th el => if k = 1 then (if by'.contains b = true then by' else by' ++ [b]) else if rHold x c = true then rApps x by' th else rApps x by' el
def rApps (x : En) (by' : List Int) : List St → List Int
  | [] => by'
  | s :: l => rApps x (rApp x by' s) l
end
end Go.Proofs.YtabdgnigmlpeaaaGreatDoor
