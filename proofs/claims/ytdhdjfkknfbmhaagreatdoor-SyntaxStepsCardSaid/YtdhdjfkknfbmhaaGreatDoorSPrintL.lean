/- What tokens a printed text has. -/
import Derived.Test.YtdhdjfkknfbmhaaGreatDoorSMath
import Derived.Lib.ItoaNum
namespace Go.Proofs.YtdhdjfkknfbmhaaGreatDoor

theorem decq_len : ∀ (k n : Nat), n < 10 ^ (k + 1) → 1 ≤ (Lib.decDigits n).length ∧ (Lib.decDigits n).length ≤ k + 1
  | 0, n, h => by
    have h : n < 10 := by simpa using h
    rw [Lib.decDigits_one h]; simp
  | k + 1, n, h => by
    by_cases h1 : n < 10
    · rw [Lib.decDigits_one h1]; simp
    · rw [Lib.decDigits, dif_neg h1]
      have := decq_len k (n / 10) (by rw [Nat.pow_succ] at h; omega)
      rw [List.length_append]
      simp only [List.length_cons, List.length_nil]
      omega
theorem digq_toNat (r : Nat) (h : r < 10) : (UInt8.ofNat (48 + r)).toNat = 48 + r := by simp; omega
theorem digq_isD (r : Nat) (h : r < 10) : isD (UInt8.ofNat (48 + r)) = true := by
  unfold isD; rw [digq_toNat r h]; simp; omega
theorem decq_isD : ∀ (k n : Nat), n < 10 ^ (k + 1) → (Lib.decDigits n).all isD = true ∧ val (Lib.decDigits n) = n ∧ (n ≠ 0 → (Lib.decDigits n).head? ≠ some 48)
  | 0, n, h => by
    have h : n < 10 := by simpa using h
    rw [Lib.decDigits_one h]
    have e := digq_toNat n h
    refine ⟨by rw [List.all_cons, List.all_nil, digq_isD n h]; rfl, ?_, fun h0 hh => ?_⟩
    · show val ([] ++ [UInt8.ofNat (48 + n)]) = n
      rw [val_snoc, e]; show 10 * 0 + _ = _; omega
    · have hh2 : UInt8.ofNat (48 + n) = 48 := by simpa using hh
      rw [hh2] at e
      have : (48 : UInt8).toNat = 48 := rfl
      omega
  | k + 1, n, h => by
    by_cases h1 : n < 10
    · exact decq_isD k n (Nat.lt_of_lt_of_le h1 (by rw [Nat.pow_succ]; have : 0 < 10 ^ k := Nat.pow_pos (by decide); omega))
    · have e : Lib.decDigits n = Lib.decDigits (n / 10) ++ [UInt8.ofNat (48 + n % 10)] := by rw [Lib.decDigits, dif_neg h1]
      obtain ⟨a, b, c⟩ := decq_isD k (n / 10) (by rw [Nat.pow_succ] at h; omega)
      have hl := decq_len k (n / 10) (by rw [Nat.pow_succ] at h; omega)
      rw [e]
      refine ⟨by rw [List.all_append, a, List.all_cons, List.all_nil, digq_isD (n % 10) (by omega)]; rfl, by rw [val_snoc, b, digq_toNat _ (by omega)]; omega, fun _ => ?_⟩
      have c := c (by omega)
      cases hd : Lib.decDigits (n / 10) with
      | nil => rw [hd] at hl; simp at hl
      | cons x y => rw [hd] at c; simpa using c
theorem decq_num (n : Nat) (h : n < 10 ^ 18) : num (Lib.decDigits n) = true := by
  obtain ⟨a, b, c⟩ := decq_isD 17 n h
  have hl := decq_len 17 n h
  unfold num
  by_cases h0 : n = 0
  · subst h0; rw [Lib.decDigits_one (by omega)]; decide
  · have := c h0
    simp [a, this]; omega
theorem dec_head (n : Nat) (h : n < 10 ^ 18) : ∃ c r, Lib.decDigits n = c :: r ∧ isD c = true ∧ r.all isD = true := by
  obtain ⟨a, -, -⟩ := decq_isD 17 n h
  have hl := decq_len 17 n h
  cases hd : Lib.decDigits n with
  | nil => rw [hd] at hl; simp at hl
  | cons c r =>
    rw [hd, List.all_cons, Bool.and_eq_true] at a
    exact ⟨c, r, rfl, a.1, a.2⟩
theorem dec_int (n : Nat) (h : n < 10 ^ 18) : int (Lib.decDigits n) = true := by
  obtain ⟨c, r, e, hc, -⟩ := dec_head n h
  have hn := decq_num n h
  rw [e] at hn ⊢
  unfold int
  have : (c :: r).head? ≠ some 45 := by
    intro hh
    have : c = 45 := by simpa using hh
    subst this
    exact absurd hc (by decide)
  rw [if_neg this]
  exact hn
/-- Reading digits. -/
theorem digits_ok : ∀ (l : Bs) (acc : Nat), l.all isD = true → l.foldl (fun n c => 10 * n + (c.toNat - 48)) acc < 10 ^ 18 → acc ≤ l.foldl (fun n c => 10 * n + (c.toNat - 48)) acc ∧ Lib.parseUint10 acc l = .ok (l.foldl (fun n c => 10 * n + (c.toNat - 48)) acc)
  | [], acc, _, _ => ⟨Nat.le_refl _, rfl⟩
  | c :: r, acc, h, hl => by
    rw [List.all_cons, Bool.and_eq_true] at h
    have hc := isD_bounds h.1
    rw [List.foldl_cons] at hl ⊢
    obtain ⟨h1, h2⟩ := digits_ok r (10 * acc + (c.toNat - 48)) h.2 hl
    have e18 : (10 : Nat) ^ 18 = 1000000000000000000 := by decide
    refine ⟨by omega, ?_⟩
    rw [Lib.parseUint10, if_pos hc, if_neg (by omega), if_neg (by omega), Nat.mul_comm acc 10]
    exact h2
theorem atoi_dec (n : Nat) (h : n < 10 ^ 18) : Lib.atoiAll (Lib.decDigits n) = .ok (n : Int) := by
  obtain ⟨c, r, e, hc, hr⟩ := dec_head n h
  obtain ⟨a, b, -⟩ := decq_isD 17 n h
  have e18 : (10 : Nat) ^ 18 = 1000000000000000000 := by decide
  have hd := isD_bounds hc
  have hp : Lib.parseUint10 0 (Lib.decDigits n) = .ok n := by
    have h0 := (digits_ok (Lib.decDigits n) 0 a (by show val _ < _; rw [b]; exact h)).2
    rw [h0]; show Lib.NumEnd.ok (val _) = _; rw [b]
  rw [e] at hp ⊢
  unfold Lib.atoiAll
  simp only
  rw [if_neg (by omega)]
  unfold Lib.parseMag
  rw [if_neg (by simp), hp]
  simp only
  rw [if_neg (by omega), if_neg (by omega), if_neg (by omega)]

/- Lexing. -/
def ktq (x : Tk) : Int × Bs := (x.k, x.t)
/-- What may follow a word or a number. -/
def stopB (z : Bs) : Bool := z.head? == none || z.head? == some 32 || z.head? == some 10 || z.head? == some 40 || z.head? == some 41 || z.head? == some 59 || z.head? == some 123 || z.head? == some 125
/-- The text r is these tokens, whatever follows (of what g admits). -/
def Lx (g : Bs → Bool) (r : Bs) (K : List (Int × Bs)) : Prop :=
  ∀ z, g z = true → ∀ f p e m, (r ++ z).length < f → ∃ f' p', z.length < f' ∧ (lex f (r ++ z) p e m).2 = (lex f' z p' e m).2 ∧ (lex f (r ++ z) p e m).1.map ktq = K ++ (lex f' z p' e m).1.map ktq
def anyB (_ : Bs) : Bool := true
theorem Lx.weak {r : Bs} {K : List (Int × Bs)} (h : Lx anyB r K) (g : Bs → Bool) : Lx g r K := fun z _ => h z rfl
theorem Lx.nil (g : Bs → Bool) : Lx g [] [] := fun _ _ f p _ _ hf => ⟨f, p, hf, rfl, rfl⟩
theorem Lx.app {g g' : Bs → Bool} {r r' : Bs} {K K' : List (Int × Bs)} (h : Lx g r K) (h' : Lx g' r' K') (hg : ∀ z, g' z = true → g (r' ++ z) = true) : Lx g' (r ++ r') (K ++ K') := by
  intro z hz f p e m hf
  rw [List.append_assoc] at hf ⊢
  obtain ⟨f1, p1, a1, a2, a3⟩ := h (r' ++ z) (hg z hz) f p e m hf
  obtain ⟨f2, p2, b1, b2, b3⟩ := h' z hz f1 p1 e m a1
  exact ⟨f2, p2, b1, a2.trans b2, by rw [a3, b3, List.append_assoc]⟩
theorem Lx.app0 {g' : Bs → Bool} {r r' : Bs} {K K' : List (Int × Bs)} (h : Lx anyB r K) (h' : Lx g' r' K') : Lx g' (r ++ r') (K ++ K') := h.app h' fun _ _ => rfl
theorem Lx.space (c : UInt8) (hc : c = 32 ∨ c = 10) : Lx anyB [c] [] := by
  intro z _ f p e m hf
  obtain ⟨f, rfl⟩ : ∃ g, f = g + 1 := ⟨f - 1, by omega⟩
  have hl : ([c] ++ z).length = z.length + 1 := by simp
  rw [hl] at hf
  have hs := skp_len false z
  have hsk : skp false ([c] ++ z) = skp false z := by
    rcases hc with rfl | rfl
    · rw [List.singleton_append, skp, if_neg (by decide), if_pos (Or.inr (by decide))]
    · rw [List.singleton_append, skp, if_pos rfl]
  refine ⟨f + 1, p + 1, by omega, ?_⟩
  have : lex (f + 1) ([c] ++ z) p e m = lex (f + 1) z (p + 1) e m := by
    rw [lex, lex, hsk, hl, show p + (z.length + 1 - (skp false z).length) = p + 1 + (z.length - (skp false z).length) by omega]
  rw [this]
  exact ⟨rfl, by simp⟩
/-- One token. -/
theorem Lx.one_ {g : Bs → Bool} {r : Bs} {k : Int} {t : Bs} (hk : k ≠ 0) (hr : 0 < r.length) (h : ∀ z, g z = true → skp false (r ++ z) = r ++ z ∧ tok (r ++ z) = (k, t, r.length)) : Lx g r [(k, t)] := by
  intro z hz f p e m hf
  obtain ⟨f, rfl⟩ : ∃ g, f = g + 1 := ⟨f - 1, by omega⟩
  obtain ⟨h1, h2⟩ := h z hz
  rw [List.length_append] at hf
  refine ⟨f, p + r.length, by omega, ?_⟩
  rw [lex, h1, h2]
  simp only
  rw [if_neg (by intro h0; have h9 := congrArg List.length h0; simp only [List.length_append, List.length_nil] at h9; omega), if_neg hk]
  simp [ktq, List.drop_left']
theorem isW_stop {z : Bs} (h : stopB z = true) : isW (z.headD 0) = false ∧ z.headD 0 ≠ 58 ∧ z.headD 0 ≠ 46 := by
  cases z with
  | nil => decide
  | cons c r =>
    simp only [stopB, List.head?_cons, Bool.or_eq_true, beq_iff_eq, Option.some.injEq, reduceCtorEq, false_or] at h
    rcases h with (((((h | h) | h) | h) | h) | h) | h <;> subst h <;> simp only [List.headD_cons] <;> decide
theorem wdLenW : ∀ (t z : Bs), t.all isW = true → isW (z.headD 0) = false → wdLen (t ++ z) = t.length
  | [], [], _, _ => rfl
  | [], c :: r, _, h => by
    rw [List.nil_append, wdLen, if_neg (by rw [List.headD_cons] at h; rw [h]; decide)]; rfl
  | c :: t, z, h, hz => by
    rw [List.all_cons, Bool.and_eq_true] at h
    rw [List.cons_append, wdLen, if_pos h.1, wdLenW t z h.2 hz]; rfl
theorem isWq_of_D {c : UInt8} (h : isD c = true) : isW c = true := by unfold isW; rw [h]; simp
theorem numLenD : ∀ (t z : Bs), t.all isD = true → isW (z.headD 0) = false → z.headD 0 ≠ 58 → z.headD 0 ≠ 46 → numLen (t ++ z) = t.length
  | [], [], _, _, _, _ => rfl
  | [], c :: r, _, h, h1, h2 => by
    rw [List.headD_cons] at h h1 h2
    rw [List.nil_append, numLen, if_neg (by rw [h]; rintro (h | ⟨h | h, _⟩); exact absurd h (by decide); exact h1 h; exact h2 h)]; rfl
  | c :: t, z, h, hz, h1, h2 => by
    rw [List.all_cons, Bool.and_eq_true] at h
    rw [List.cons_append, numLen, if_pos (Or.inl (isWq_of_D h.1)), numLenD t z h.2 hz h1 h2]; rfl
theorem skp_L (c : UInt8) (r : Bs) (h : isL c = true ∨ isD c = true) : skp false (c :: r) = c :: r := by
  have key : ∀ n : Fin 256, (isL (UInt8.ofNat n.val) = true ∨ isD (UInt8.ofNat n.val) = true) → UInt8.ofNat n.val ≠ 10 ∧ isS (UInt8.ofNat n.val) = false ∧ UInt8.ofNat n.val ≠ 35 := by decide +kernel
  obtain ⟨a, b, d⟩ := all_bytes (p := fun c => (isL c = true ∨ isD c = true) → c ≠ 10 ∧ isS c = false ∧ c ≠ 35) key c h
  rw [skp, if_neg a, if_neg (by rw [b]; simp), if_neg d]
theorem Lx.word (c : UInt8) (t : Bs) (hc : isL c = true) (ht : t.all isW = true) : Lx stopB (c :: t) [(1, c :: t)] := by
  refine Lx.one_ (by decide) (by simp) fun z hz => ?_
  obtain ⟨h1, h2, h3⟩ := isW_stop hz
  rw [List.cons_append]
  refine ⟨skp_L c _ (Or.inl hc), ?_⟩
  rw [tok_cons, if_pos hc, wdLenW t z ht h1]
  simp
theorem isLq_of_D {c : UInt8} (h : isD c = true) : isL c = false := by
  have key : ∀ n : Fin 256, isD (UInt8.ofNat n.val) = true → isL (UInt8.ofNat n.val) = false := by decide +kernel
  exact all_bytes (p := fun c => isD c = true → isL c = false) key c h
theorem Lx.int (n : Nat) (h : n < 10 ^ 18) : Lx stopB (Lib.decDigits n) [(2, Lib.decDigits n)] := by
  obtain ⟨c, r, e, hc, hr⟩ := dec_head n h
  have hi := dec_int n h
  rw [e] at hi ⊢
  refine Lx.one_ (by decide) (by simp) fun z hz => ?_
  obtain ⟨h1, h2, h3⟩ := isW_stop hz
  rw [List.cons_append]
  refine ⟨skp_L c _ (Or.inr hc), ?_⟩
  rw [tok_cons, if_neg (by rw [isLq_of_D hc]; decide), if_pos (Or.inl hc), numLenD r z hr h1 h2 h3]
  have : (c :: (r ++ z)).take (r.length + 1) = c :: r := by simp
  rw [this, if_pos hi]
  rfl
/-- A sign of one character that begins no longer one. -/
theorem Lx.sign1 (c : UInt8) (hc : c = 40 ∨ c = 41 ∨ c = 123 ∨ c = 125 ∨ c = 59) : Lx anyB [c] [(5, [c])] := by
  refine Lx.one_ (by decide) (by simp) fun z _ => ?_
  rw [List.singleton_append]
  rcases hc with rfl | rfl | rfl | rfl | rfl
  all_goals
    refine ⟨by rw [skp, if_neg (by decide), if_neg (by decide), if_neg (by decide)], ?_⟩
    rw [tok_cons, if_neg (by decide), if_neg (by rintro (h | ⟨h, _⟩); exact absurd h (by decide); exact absurd h (by decide)), if_neg (by decide)]
    simp [sgn, signs, List.find?, List.isPrefixOf]
theorem Lx.ge : Lx anyB [62, 61] [(5, [62, 61])] := by
  refine Lx.one_ (by decide) (by simp) fun z _ => ?_
  show skp false (62 :: 61 :: z) = _ ∧ tok (62 :: 61 :: z) = _
  refine ⟨by rw [skp, if_neg (by decide), if_neg (by decide), if_neg (by decide)]; rfl, ?_⟩
  rw [tok_cons, if_neg (by decide), if_neg (by rintro (h | ⟨h, _⟩); exact absurd h (by decide); exact absurd h (by decide)), if_neg (by decide)]
  simp [sgn, signs, List.find?, List.isPrefixOf]
theorem Lx.all_ {r : Bs} {K : List (Int × Bs)} (h : Lx anyB r K) : (tokens r).2 = [] ∧ (tokens r).1.map ktq = K ++ [(6, [])] := by
  obtain ⟨f', p', a1, a2, a3⟩ := h [] rfl (r.length + 1) 0 (-1) 0 (by simp)
  rw [List.append_nil] at a2 a3
  obtain ⟨g, rfl⟩ : ∃ g, f' = g + 1 := ⟨f' - 1, by simp at a1; omega⟩
  have : ∀ q, lex (g + 1) [] q (-1) 0 = ([⟨6, [], q⟩], []) := fun q => by simp [lex, skp]
  unfold Go.Proofs.YtdhdjfkknfbmhaaGreatDoor.tokens
  rw [a2, a3, this]
  exact ⟨rfl, rfl⟩
end Go.Proofs.YtdhdjfkknfbmhaaGreatDoor
/- Conditions and steps that are written down are parsed to themselves. -/
namespace Go.Proofs.YtdhdjfkknfbmhaaGreatDoor

def par (s : Bs) : Bs := [40] ++ (s ++ [41])
def varN (v : Int) : Bs := if v = 1 then wDistance else if v = 2 then wField else wShort
def allO : List (Option Bs) → Option (List Bs)
  | [] => some []
  | none :: _ => none
  | some s :: r => (allO r).map (s :: ·)
def moreB (w : Bs) : List Bs → Bs
  | [] => []
  | s :: r => [32] ++ (w ++ ([32] ++ (par s ++ moreB w r)))
def joinB (w : Bs) : List Bs → Bs
  | [] => []
  | s :: r => par s ++ moreB w r
/-- The text of a condition; the number is that of the levels left. -/
def condT : Nat → Cd → Option Bs
  | 0, _ => none
  | f + 1, .mk k v n ps =>
    if k = 1 then (if 1 ≤ v ∧ v ≤ 3 ∧ 0 ≤ n ∧ n ≤ 1125899906842624 ∧ ps.length = 0 then some (varN v ++ ([32] ++ ([62, 61] ++ ([32] ++ Lib.decDigits n.toNat)))) else none)
    else if k = 4 then (match ps with | [c] => if v = 0 ∧ n = 0 then (condT f c).map fun s => wNot ++ ([32] ++ par s) else none | _ => none)
    else if (k = 2 ∨ k = 3) ∧ 2 ≤ ps.length ∧ ps.length ≤ 16 ∧ v = 0 ∧ n = 0 then (allO (ps.map (condT f))).map (joinB (if k = 3 then wOr else wAnd))
    else none

/- Tokens of known kinds and texts. -/
theorem kt_cons {l : List Tk} {k : Int} {x : Bs} {K : List (Int × Bs)} (h : l.map ktq = (k, x) :: K) : ∃ t l', l = t :: l' ∧ t.k = k ∧ t.t = x ∧ l'.map ktq = K := by
  cases l with
  | nil => cases h
  | cons t l' =>
    rw [List.map_cons] at h
    obtain ⟨h1, h2⟩ := List.cons.inj h
    exact ⟨t, l', rfl, congrArg Prod.fst h1, congrArg Prod.snd h1, h2⟩
theorem kt_app {l : List Tk} {K K' : List (Int × Bs)} (h : l.map ktq = K ++ K') : ∃ l1 l2, l = l1 ++ l2 ∧ l1.map ktq = K ∧ l2.map ktq = K' := by
  refine ⟨l.take K.length, l.drop K.length, (List.take_append_drop _ _).symm, ?_, ?_⟩
  · rw [List.map_take, h]; simp
  · rw [List.map_drop, h]; simp
theorem kt_nil {l : List Tk} (h : l.map ktq = []) : l = [] := List.map_eq_nil_iff.1 h
theorem sees_is {t : Tk} {r : List Tk} {s : Bs} (hk : t.k = 1 ∨ t.k = 5) (ht : t.t = s) : seesS s (t :: r) = true := by
  unfold seesS
  rcases hk with hk | hk <;> simp [hk, ht]
theorem sees_not {t : Tk} {r : List Tk} {s : Bs} (ht : (t.t == s) = false) : seesS s (t :: r) = false := by
  show ((t.k == 1 || t.k == 5) && t.t == s) = false; rw [ht, Bool.and_false]
theorem sees_kind {t : Tk} {r : List Tk} {s : Bs} (h1 : t.k ≠ 1) (h5 : t.k ≠ 5) : seesS s (t :: r) = false := by
  unfold seesS; simp [h1, h5]

/-- The tokens l are read as a, whatever follows, of what g admits. -/
def Rd {α : Type} (p : P α) (K : List (Int × Bs)) (a : α) (g : List Tk → Bool) : Prop := ∀ l r, l.map ktq = K → g r = true → p (l ++ r) = .ok a r
/-- Neither `and` nor `or` follows. -/
def noAO (r : List Tk) : Bool := !seesS wAnd r && !seesS wOr r
theorem noAO_and {r : List Tk} (h : noAO r = true) : seesS wAnd r = false := by unfold noAO at h; rw [Bool.and_eq_true] at h; simpa using h.1
theorem noAO_or {r : List Tk} (h : noAO r = true) : seesS wOr r = false := by unfold noAO at h; rw [Bool.and_eq_true] at h; simpa using h.2
theorem more_stop {word : Bs} {take : P Cd} {r : List Tk} (h : seesS word r = false) (f : Nat) (acc : List Cd) : moreS word take f r acc = .ok acc r := by
  cases f with
  | zero => rfl
  | succ f => rw [moreS, if_neg (by rw [h]; decide)]
theorem joined_one {word : Bs} {kind : Int} {take : P Cd} {l r : List Tk} {c : Cd} (h : take l = .ok c r) (hn : seesS word r = false) : joinedS word kind take l = .ok c r := by
  unfold joinedS
  rw [h]
  simp only [PR.bind, PR.map, more_stop hn]
  rfl
theorem cond_of_unit {u : P Cd} {K : List (Int × Bs)} {c : Cd} (h : Rd u K c fun _ => true) : Rd (condOf u) K c noAO := fun l r hl hr => joined_one (joined_one (h l r hl rfl) (noAO_and hr)) (noAO_or hr)
def parK (K : List (Int × Bs)) : List (Int × Bs) := (5, [40]) :: (K ++ [(5, [41])])
theorem unit_parK {lv : Nat} {K : List (Int × Bs)} {c : Cd} (h : Rd (condS lv) K c noAO) : Rd (unitS (lv + 1)) (parK K) c fun _ => true := by
  intro l r hl _
  obtain ⟨t, l', rfl, hk, ht, hl'⟩ := kt_cons hl
  obtain ⟨l1, l2, rfl, h1, h2⟩ := kt_app hl'
  obtain ⟨u, l3, rfl, hk2, ht2, h3⟩ := kt_cons h2
  obtain rfl := kt_nil h3
  rw [unitS]
  dsimp only
  rw [List.cons_append, if_neg (by rw [sees_not (by rw [ht]; decide)]; decide), if_pos (sees_is (Or.inr hk) ht), List.tail_cons, List.append_assoc]
  have hc : condOf (unitS lv) (l1 ++ ([u] ++ r)) = .ok c ([u] ++ r) := h l1 ([u] ++ r) h1 (by
    unfold noAO
    rw [List.singleton_append, sees_not (by rw [ht2]; decide), sees_not (by rw [ht2]; decide)]; rfl)
  rw [hc]
  simp only [PR.bind, PR.map]
  rw [List.singleton_append, expectS, if_pos (sees_is (Or.inr hk2) ht2)]
  rfl
theorem unit_notK {lv : Nat} {K : List (Int × Bs)} {c : Cd} (h : Rd (unitS lv) K c fun _ => true) : Rd (unitS (lv + 1)) ((1, wNot) :: K) (negatedS c) fun _ => true := by
  intro l r hl _
  obtain ⟨t, l', rfl, hk, ht, hl'⟩ := kt_cons hl
  rw [unitS]
  dsimp only
  rw [List.cons_append, if_pos (sees_is (Or.inl hk) ht), List.tail_cons, h l' r hl' rfl]
  rfl
theorem comp_K (v n : Int) (hv1 : 1 ≤ v) (hv3 : v ≤ 3) (hn : 0 ≤ n) (hn2 : n ≤ 1125899906842624) : Rd compS [(1, varN v), (5, [62, 61]), (2, Lib.decDigits n.toNat)] (.mk 1 v n []) fun _ => true := by
  intro l r hl _
  obtain ⟨t, l', rfl, hk, ht, hl'⟩ := kt_cons hl
  obtain ⟨u, l'', rfl, hk2, ht2, hl''⟩ := kt_cons hl'
  obtain ⟨x, l3, rfl, hk3, ht3, h3⟩ := kt_cons hl''
  obtain rfl := kt_nil h3
  have h18 : n.toNat < 10 ^ 18 := by have : (10 : Nat) ^ 18 = 1000000000000000000 := by decide
                                     omega
  have hnum : numberS (x :: r) = .ok n r := by
    unfold numberS numV kindS textS
    simp only [hk3, ht3]
    rw [atoi_dec n.toNat h18]
    have e : ((n.toNat : Nat) : Int) = n := by omega
    rw [e]
    simp [hn, hn2]
  have hcmp : chooseS cmpSigns (u :: x :: r) = .ok 0 (x :: r) := by
    unfold chooseS cmpSigns
    rw [idxS, if_pos (sees_is (Or.inr hk2) ht2)]
    rfl
  have hvar : ∃ j : Nat, chooseS varWords (t :: u :: x :: r) = .ok j (u :: x :: r) ∧ (j : Int) = v := by
    unfold chooseS varWords
    have : v = 1 ∨ v = 2 ∨ v = 3 := by omega
    rcases this with rfl | rfl | rfl
    · refine ⟨1, ?_, rfl⟩
      have ht : t.t = wDistance := ht
      rw [idxS, if_neg (by rw [sees_not (by rw [ht]; decide)]; decide), idxS, if_pos (sees_is (Or.inl hk) ht)]; rfl
    · refine ⟨2, ?_, rfl⟩
      have ht : t.t = wField := ht
      rw [idxS, if_neg (by rw [sees_not (by rw [ht]; decide)]; decide), idxS, if_neg (by rw [sees_not (by rw [ht]; decide)]; decide), idxS, if_pos (sees_is (Or.inl hk) ht)]; rfl
    · refine ⟨3, ?_, rfl⟩
      have ht : t.t = wShort := ht
      rw [idxS, if_neg (by rw [sees_not (by rw [ht]; decide)]; decide), idxS, if_neg (by rw [sees_not (by rw [ht]; decide)]; decide), idxS, if_neg (by rw [sees_not (by rw [ht]; decide)]; decide), idxS, if_pos (sees_is (Or.inl hk) ht)]; rfl
  obtain ⟨j, hj, hjv⟩ := hvar
  show compS (t :: u :: x :: r) = _
  unfold compS
  rw [hj]
  simp only [PR.bind]
  rw [hcmp]
  simp only
  rw [hnum]
  simp only [PR.map, PR.bind, comparedS, Cd.atLeast]
  rw [hjv]
  rfl
theorem unit_compK (lv : Nat) (v n : Int) (hv1 : 1 ≤ v) (hv3 : v ≤ 3) (hn : 0 ≤ n) (hn2 : n ≤ 1125899906842624) : Rd (unitS lv) [(1, varN v), (5, [62, 61]), (2, Lib.decDigits n.toNat)] (.mk 1 v n []) fun _ => true := by
  intro l r hl hr
  have hc := comp_K v n hv1 hv3 hn hn2 l r hl hr
  obtain ⟨t, l', rfl, hk, ht, hl'⟩ := kt_cons hl
  have hv : varN v = wDistance ∨ varN v = wField ∨ varN v = wShort := by
    unfold varN
    split
    · exact Or.inl rfl
    · split
      · exact Or.inr (Or.inl rfl)
      · exact Or.inr (Or.inr rfl)
  have n1 : seesS wNot (t :: l' ++ r) = false := by rw [List.cons_append]; exact sees_not (by rw [ht]; rcases hv with h | h | h <;> rw [h] <;> decide)
  have n2 : seesS [40] (t :: l' ++ r) = false := by rw [List.cons_append]; exact sees_not (by rw [ht]; rcases hv with h | h | h <;> rw [h] <;> decide)
  cases lv with
  | zero => rw [unitS]; dsimp only; rw [if_neg (by rw [n1]; decide), if_neg (by rw [n2]; decide)]; exact hc
  | succ lv => rw [unitS]; dsimp only; rw [if_neg (by rw [n1]; decide), if_neg (by rw [n2]; decide)]; exact hc

/-- Several in parentheses, a word between each two. -/
def moreK (w : Bs) : List (List (Int × Bs)) → List (Int × Bs)
  | [] => []
  | K :: r => (1, w) :: (parK K ++ moreK w r)
theorem more_join {word : Bs} {take : P Cd} {g : List Tk → Bool} (hg : ∀ (t : Tk) (l : List Tk), t.t = word → g (t :: l) = true) :
    ∀ (xs : List (List (Int × Bs) × Cd)), (∀ x ∈ xs, Rd take (parK x.1) x.2 g) → ∀ (l r : List Tk) (acc : List Cd) (f : Nat), l.map ktq = moreK word (xs.map (·.1)) → g r = true → seesS word r = false → (l ++ r).length ≤ f →
    moreS word take f (l ++ r) acc = .ok (acc ++ xs.map (·.2)) r
  | [], _, l, r, acc, f, hl, _, hs, _ => by
    obtain rfl := kt_nil hl
    rw [List.nil_append, more_stop hs, List.map_nil, List.append_nil]
  | x :: xs, hR, l, r, acc, f, hl, hr, hs, hf => by
    obtain ⟨t, l', rfl, hk, ht, hl'⟩ := kt_cons hl
    obtain ⟨la, lb, rfl, ha, hb⟩ := kt_app hl'
    obtain ⟨f, rfl⟩ : ∃ g, f = g + 1 := ⟨f - 1, by simp at hf; omega⟩
    rw [List.cons_append, moreS, if_pos (sees_is (Or.inl hk) ht), List.tail_cons, List.append_assoc]
    have hgb : g (lb ++ r) = true := by
      cases xs with
      | nil =>
        obtain rfl := kt_nil hb
        exact hr
      | cons y ys =>
        obtain ⟨t2, l2, rfl, _, ht2, _⟩ := kt_cons hb
        exact hg t2 _ ht2
    rw [hR x (List.mem_cons_self ..) la (lb ++ r) ha hgb]
    simp only [PR.bind]
    rw [more_join hg xs (fun y hy => hR y (List.mem_cons_of_mem _ hy)) lb r (acc ++ [x.2]) f hb hr hs (by simp at hf ⊢; omega)]
    simp
theorem sees_word {t : Tk} {l : List Tk} {w s : Bs} (ht : t.t = w) (h : (w == s) = false) : seesS s (t :: l) = false := sees_not (by rw [ht]; exact h)
/-- A conjunction, a disjunction. -/
theorem and_K {lv : Nat} (x : List (Int × Bs) × Cd) (xs : List (List (Int × Bs) × Cd)) (hne : xs ≠ []) (h : ∀ y ∈ x :: xs, Rd (condS lv) y.1 y.2 noAO) :
    Rd (condS (lv + 1)) (parK x.1 ++ moreK wAnd (xs.map (·.1))) (.mk 2 0 0 (x.2 :: xs.map (·.2))) noAO := by
  intro l r hl hr
  obtain ⟨la, lb, rfl, ha, hb⟩ := kt_app hl
  have hu : ∀ y ∈ x :: xs, Rd (unitS (lv + 1)) (parK y.1) y.2 fun _ => true := fun y hy => unit_parK (h y hy)
  refine joined_one ?_ (noAO_or hr)
  unfold joinedS
  rw [List.append_assoc, hu x (List.mem_cons_self ..) la (lb ++ r) ha rfl]
  simp only [PR.bind, PR.map]
  rw [more_join (fun _ _ _ => rfl) xs (fun y hy => hu y (List.mem_cons_of_mem _ hy)) lb r [x.2] _ hb rfl (noAO_and hr) (Nat.le_refl _)]
  cases xs with
  | nil => exact absurd rfl hne
  | cons y ys => rfl
theorem or_K {lv : Nat} (x : List (Int × Bs) × Cd) (xs : List (List (Int × Bs) × Cd)) (hne : xs ≠ []) (h : ∀ y ∈ x :: xs, Rd (condS lv) y.1 y.2 noAO) :
    Rd (condS (lv + 1)) (parK x.1 ++ moreK wOr (xs.map (·.1))) (.mk 3 0 0 (x.2 :: xs.map (·.2))) noAO := by
  intro l r hl hr
  obtain ⟨la, lb, rfl, ha, hb⟩ := kt_app hl
  have hu : ∀ y ∈ x :: xs, Rd (joinedS wAnd 2 (unitS (lv + 1))) (parK y.1) y.2 fun r => !seesS wAnd r := fun y hy l r hl hr => joined_one (unit_parK (h y hy) l r hl rfl) (by simpa using hr)
  have hg : ∀ (t : Tk) (l : List Tk), t.t = wOr → (!seesS wAnd (t :: l)) = true := fun t l ht => by rw [sees_word ht (by decide)]; rfl
  have hgb : (!seesS wAnd (lb ++ r)) = true := by
    cases xs with
    | nil => exact absurd rfl hne
    | cons y ys =>
      obtain ⟨t2, l2, rfl, _, ht2, _⟩ := kt_cons hb
      exact hg t2 _ ht2
  show joinedS wOr 3 (joinedS wAnd 2 (unitS (lv + 1))) _ = _
  rw [joinedS, List.append_assoc, hu x (List.mem_cons_self ..) la (lb ++ r) ha hgb]
  simp only [PR.bind, PR.map]
  rw [more_join hg xs (fun y hy => hu y (List.mem_cons_of_mem _ hy)) lb r [x.2] _ hb (by rw [noAO_and hr]; rfl) (noAO_or hr) (Nat.le_refl _)]
  cases xs with
  | nil => exact absurd rfl hne
  | cons y ys => rfl

/- The texts. -/
theorem lx_par {s : Bs} {K : List (Int × Bs)} (h : Lx stopB s K) : Lx anyB (par s) (parK K) := by
  have h1 := (Lx.sign1 40 (by decide)).app0 (h.app (Lx.sign1 41 (by decide)) (g' := anyB) fun z _ => rfl)
  exact h1
theorem lx_sp {s : Bs} {K : List (Int × Bs)} {g : Bs → Bool} (h : Lx g s K) : Lx g ([32] ++ s) K := (Lx.space 32 (Or.inl rfl)).app0 h
theorem lx_word {w : Bs} {c : UInt8} {t : Bs} (e : w = c :: t) (hc : isL c = true) (ht : t.all isW = true) : Lx stopB w [(1, w)] := by subst e; exact Lx.word c t hc ht
/-- A word and a space. -/
theorem lx_wsp {w s : Bs} {K : List (Int × Bs)} {g : Bs → Bool} (hw : Lx stopB w [(1, w)]) (h : Lx g s K) : Lx g (w ++ ([32] ++ s)) ((1, w) :: K) := hw.app (lx_sp h) fun _ _ => rfl
theorem lx_more {w : Bs} (hw : Lx stopB w [(1, w)]) : ∀ (xs : List (Bs × List (Int × Bs))), (∀ x ∈ xs, Lx stopB x.1 x.2) → Lx anyB (moreB w (xs.map (·.1))) (moreK w (xs.map (·.2)))
  | [], _ => Lx.nil _
  | x :: xs, h => lx_sp (lx_wsp hw ((lx_par (h x (List.mem_cons_self ..))).app0 (lx_more hw xs fun y hy => h y (List.mem_cons_of_mem _ hy))))
theorem lxAnd : Lx stopB wAnd [(1, wAnd)] := lx_word rfl (by decide) (by decide)
theorem lxOr : Lx stopB wOr [(1, wOr)] := lx_word rfl (by decide) (by decide)
theorem lxNot : Lx stopB wNot [(1, wNot)] := lx_word rfl (by decide) (by decide)
theorem lxVar (v : Int) : Lx stopB (varN v) [(1, varN v)] := by
  unfold varN
  split
  · exact lx_word rfl (by decide) (by decide)
  · split
    · exact lx_word rfl (by decide) (by decide)
    · exact lx_word rfl (by decide) (by decide)

/-- What a condition's text is. -/
structure CT (f : Nat) (c : Cd) (s : Bs) (K : List (Int × Bs)) : Prop where
  lx : Lx stopB s K
  rd : ∀ lv, 2 * f ≤ lv + 2 → Rd (condS lv) K c noAO
theorem allO_some {α : Type} (p : α → Option Bs) : ∀ (l : List α) (ss : List Bs), allO (l.map p) = some ss → ss.length = l.length ∧ ∀ i (h : i < l.length) (h' : i < ss.length), p l[i] = some ss[i]
  | [], ss, h => by cases h; exact ⟨rfl, fun i h => by simp at h⟩
  | a :: l, ss, h => by
    rw [List.map_cons] at h
    cases hp : p a with
    | none => rw [hp] at h; cases h
    | some s =>
      rw [hp] at h
      cases hr : allO (l.map p) with
      | none => simp [allO, hr] at h
      | some ss' =>
        simp only [allO, hr, Option.map_some, Option.some.injEq] at h
        subst h
        obtain ⟨h1, h2⟩ := allO_some p l ss' hr
        refine ⟨by simp [h1], fun i hi hi' => ?_⟩
        cases i with
        | zero => exact hp
        | succ i => exact h2 i (by simpa using hi) (by simpa using hi')
/-- The tokens of several. -/
theorem choose_K (f : Nat) (ih : ∀ c s, condT f c = some s → ∃ K, CT f c s K) : ∀ (ps : List Cd) (ss : List Bs), allO (ps.map (condT f)) = some ss → ∃ Ks : List (List (Int × Bs)), Ks.length = ps.length ∧ ss.length = ps.length ∧
    (∀ x ∈ ss.zip Ks, Lx stopB x.1 x.2) ∧ (∀ lv, 2 * f ≤ lv + 2 → ∀ x ∈ Ks.zip ps, Rd (condS lv) x.1 x.2 noAO)
  | [], ss, h => by cases h; exact ⟨[], rfl, rfl, by simp, by simp⟩
  | c :: ps, ss, h => by
    rw [List.map_cons] at h
    cases hp : condT f c with
    | none => rw [hp] at h; cases h
    | some s =>
      rw [hp] at h
      cases hr : allO (ps.map (condT f)) with
      | none => simp [allO, hr] at h
      | some ss' =>
        simp only [allO, hr, Option.map_some, Option.some.injEq] at h
        subst h
        obtain ⟨Ks, h1, h2, h3, h4⟩ := choose_K f ih ps ss' hr
        obtain ⟨K, hK⟩ := ih c s hp
        refine ⟨K :: Ks, by simp [h1], by simp [h2], fun x hx => ?_, fun lv hlv x hx => ?_⟩
        · rw [List.zip_cons_cons] at hx
          rcases List.mem_cons.1 hx with rfl | hx
          · exact hK.lx
          · exact h3 x hx
        · rw [List.zip_cons_cons] at hx
          rcases List.mem_cons.1 hx with rfl | hx
          · exact hK.rd lv hlv
          · exact h4 lv hlv x hx
theorem zip_fst {α β : Type} : ∀ (a : List α) (b : List β), a.length = b.length → (a.zip b).map (·.1) = a ∧ (a.zip b).map (·.2) = b
  | [], [], _ => ⟨rfl, rfl⟩
  | [], _ :: _, h => by cases h
  | _ :: _, [], h => by cases h
  | x :: a, y :: b, h => by
    obtain ⟨h1, h2⟩ := zip_fst a b (by simpa using h)
    rw [List.zip_cons_cons, List.map_cons, List.map_cons, h1, h2]
    exact ⟨rfl, rfl⟩
theorem condT_ok : ∀ (f : Nat) (c : Cd) (s : Bs), condT f c = some s → ∃ K, CT f c s K
  | 0, c, s, h => by cases h
  | f + 1, .mk k v n ps, s, h => by
    unfold condT at h
    by_cases h1 : k = 1
    · rw [if_pos h1] at h
      split at h
      · rename_i hc
        obtain ⟨hv1, hv3, hn, hn2, hp⟩ := hc
        obtain rfl : ps = [] := List.eq_nil_of_length_eq_zero hp
        subst h1
        cases h
        have h18 : n.toNat < 10 ^ 18 := by have : (10 : Nat) ^ 18 = 1000000000000000000 := by decide
                                           omega
        refine ⟨[(1, varN v), (5, [62, 61]), (2, Lib.decDigits n.toNat)], ?_, fun lv _ => cond_of_unit (unit_compK lv v n hv1 hv3 hn hn2)⟩
        exact lx_wsp (lxVar v) (Lx.ge.app0 (lx_sp (Lx.int n.toNat h18)))
      · cases h
    · rw [if_neg h1] at h
      by_cases h4 : k = 4
      · rw [if_pos h4] at h
        subst h4
        cases ps with
        | nil => cases h
        | cons c ps =>
          cases ps with
          | cons _ _ => cases h
          | nil =>
            simp only at h
            split at h
            · rename_i hc
              obtain ⟨rfl, rfl⟩ := hc
              cases hs : condT f c with
              | none => rw [hs] at h; cases h
              | some s' =>
                rw [hs] at h
                cases h
                obtain ⟨K, hK⟩ := condT_ok f c s' hs
                refine ⟨(1, wNot) :: parK K, (lx_wsp lxNot (lx_par hK.lx)).weak _, fun lv hlv => ?_⟩
                cases f with
                | zero => cases hs
                | succ f =>
                  obtain ⟨lv, rfl⟩ : ∃ u, lv = u + 2 := ⟨lv - 2, by omega⟩
                  exact cond_of_unit (unit_notK (unit_parK (hK.rd lv (by omega))))
            · cases h
      · rw [if_neg h4] at h
        split at h
        · rename_i hc
          obtain ⟨hk, hl2, -, rfl, rfl⟩ := hc
          cases hs : allO (ps.map (condT f)) with
          | none => rw [hs] at h; cases h
          | some ss =>
            rw [hs] at h
            cases h
            obtain ⟨Ks, e1, e2, hlx, hrd⟩ := choose_K f (condT_ok f) ps ss hs
            match ps, Ks, ss, hl2, e1, e2, hlx, hrd, hs with
            | p0 :: ps, K0 :: Ks, s0 :: ss, hl2, e1, e2, hlx, hrd, hs =>
              have e1 : Ks.length = ps.length := by simpa using e1
              have e2 : ss.length = ps.length := by simpa using e2
              have hne : Ks.zip ps ≠ [] := by
                intro e
                have := congrArg List.length e
                simp only [List.length_zip, List.length_nil] at this
                simp only [List.length_cons] at hl2
                omega
              obtain ⟨za, zb⟩ := zip_fst Ks ps e1
              obtain ⟨zc, zd⟩ := zip_fst ss Ks (by omega)
              have hf1 : 1 ≤ f := by
                cases f with
                | zero => simp [allO, condT] at hs
                | succ f => omega
              have hX : ∀ lv, 2 * f ≤ lv + 2 → ∀ y ∈ (K0, p0) :: Ks.zip ps, Rd (condS lv) y.1 y.2 noAO := fun lv h y hy => hrd lv h y (by rwa [List.zip_cons_cons])
              have hm : ∀ w, Lx stopB w [(1, w)] → Lx anyB (joinB w (s0 :: ss)) (parK K0 ++ moreK w Ks) := fun w hw => by
                have := (lx_par (hlx (s0, K0) (by simp))).app0 (lx_more hw (ss.zip Ks) fun x hx => hlx x (by rw [List.zip_cons_cons]; exact List.mem_cons_of_mem _ hx))
                rwa [zc, zd] at this
              rcases hk with rfl | rfl
              · refine ⟨parK K0 ++ moreK wAnd Ks, (hm wAnd lxAnd).weak _, fun lv hlv => ?_⟩
                obtain ⟨lv, rfl⟩ : ∃ u, lv = u + 1 := ⟨lv - 1, by omega⟩
                have := and_K (K0, p0) (Ks.zip ps) hne (hX lv (by omega))
                rwa [za, zb] at this
              · refine ⟨parK K0 ++ moreK wOr Ks, (hm wOr lxOr).weak _, fun lv hlv => ?_⟩
                obtain ⟨lv, rfl⟩ : ∃ u, lv = u + 1 := ⟨lv - 1, by omega⟩
                have := or_K (K0, p0) (Ks.zip ps) hne (hX lv (by omega))
                rwa [za, zb] at this
        · cases h
end Go.Proofs.YtdhdjfkknfbmhaaGreatDoor
/- Steps that are written down are parsed to themselves. -/
namespace Go.Proofs.YtdhdjfkknfbmhaaGreatDoor

def byN (b : Int) : Bs := if b = 1 then wOlder else if b = 2 then wYounger else if b = 3 then wWave else if b = 4 then wBib else wDraw
def Cd.isZero (c : Cd) : Bool := match c with | .mk k v n ps => decide (k = 0 ∧ v = 0 ∧ n = 0 ∧ ps.length = 0)
def bracesB (s : Bs) : Bs := [123] ++ (s ++ [125])
/-- The text of a step, by that of lists of steps. -/
def stepT (rec : List St → Option Bs) : St → Option Bs
  | .mk k b c th el =>
    if k = 1 then (if 1 ≤ b ∧ b ≤ 5 ∧ c.isZero = true ∧ th.length = 0 ∧ el.length = 0 then some (byN b ++ ([59] ++ [10])) else none)
    else if k = 2 ∧ b = 0 then
      match condT 8 c, rec th with
      | some s, some a => if el.length = 0 then some (wIf ++ ([32] ++ (s ++ ([32] ++ bracesB a)))) else (rec el).map fun e => wIf ++ ([32] ++ (s ++ ([32] ++ (bracesB a ++ ([32] ++ (wElse ++ ([32] ++ bracesB e)))))))
      | _, _ => none
    else none
/-- The text of steps; the number is that of the levels left. -/
def stepsT : Nat → List St → Option Bs
  | 0, _ => none
  | g + 1, ss => if 1 ≤ ss.length ∧ ss.length ≤ 12 then (allO (ss.map (stepT (stepsT g)))).map List.flatten else none

def gS (r : List Tk) : Bool := !goesOn r && !seesS wElse r
def noElse (r : List Tk) : Bool := !seesS wElse r
theorem byN_cases (b : Int) : byN b = wOlder ∨ byN b = wYounger ∨ byN b = wWave ∨ byN b = wBib ∨ byN b = wDraw := by
  unfold byN
  split
  · exact Or.inl rfl
  · split
    · exact Or.inr (Or.inl rfl)
    · split
      · exact Or.inr (Or.inr (Or.inl rfl))
      · split
        · exact Or.inr (Or.inr (Or.inr (Or.inl rfl)))
        · exact Or.inr (Or.inr (Or.inr (Or.inr rfl)))
theorem by_K (go : Option (P (List St))) (b : Int) (h1 : 1 ≤ b) (h5 : b ≤ 5) : Rd (stepWith go) [(1, byN b), (5, [59])] (.mk 1 b .zero [] []) fun _ => true := by
  intro l r hl _
  obtain ⟨t, l', rfl, hk, ht, hl'⟩ := kt_cons hl
  obtain ⟨u, l'', rfl, hk2, ht2, hl''⟩ := kt_cons hl'
  obtain rfl := kt_nil hl''
  have hif : seesS wIf (t :: u :: r) = false := sees_not (by rw [ht]; rcases byN_cases b with h | h | h | h | h <;> rw [h] <;> decide)
  have hch : ∃ j : Nat, chooseS stepWordsS (t :: u :: r) = .ok j (u :: r) ∧ (j : Int) + 1 = b := by
    have hb : b = 1 ∨ b = 2 ∨ b = 3 ∨ b = 4 ∨ b = 5 := by omega
    unfold chooseS stepWordsS
    rcases hb with rfl | rfl | rfl | rfl | rfl
    · refine ⟨0, ?_, rfl⟩
      have ht : t.t = wOlder := ht
      rw [idxS, if_pos (sees_is (Or.inl hk) ht)]; rfl
    · refine ⟨1, ?_, rfl⟩
      have ht : t.t = wYounger := ht
      rw [idxS, if_neg (by rw [sees_not (by rw [ht]; decide)]; decide), idxS, if_pos (sees_is (Or.inl hk) ht)]; rfl
    · refine ⟨2, ?_, rfl⟩
      have ht : t.t = wWave := ht
      rw [idxS, if_neg (by rw [sees_not (by rw [ht]; decide)]; decide), idxS, if_neg (by rw [sees_not (by rw [ht]; decide)]; decide), idxS, if_pos (sees_is (Or.inl hk) ht)]; rfl
    · refine ⟨3, ?_, rfl⟩
      have ht : t.t = wBib := ht
      rw [idxS, if_neg (by rw [sees_not (by rw [ht]; decide)]; decide), idxS, if_neg (by rw [sees_not (by rw [ht]; decide)]; decide), idxS, if_neg (by rw [sees_not (by rw [ht]; decide)]; decide), idxS, if_pos (sees_is (Or.inl hk) ht)]; rfl
    · refine ⟨4, ?_, rfl⟩
      have ht : t.t = wDraw := ht
      rw [idxS, if_neg (by rw [sees_not (by rw [ht]; decide)]; decide), idxS, if_neg (by rw [sees_not (by rw [ht]; decide)]; decide), idxS, if_neg (by rw [sees_not (by rw [ht]; decide)]; decide), idxS, if_neg (by rw [sees_not (by rw [ht]; decide)]; decide), idxS, if_pos (sees_is (Or.inl hk) ht)]; rfl
  obtain ⟨j, hj, hjb⟩ := hch
  show stepWith go (t :: u :: r) = _
  unfold stepWith
  rw [if_neg (by rw [hif]; decide)]
  unfold byS
  rw [hj]
  simp only [PR.bind, PR.map]
  rw [expectS, if_pos (sees_is (Or.inr hk2) ht2)]
  simp only [List.tail_cons, expectS, hjb]
def braceK (K : List (Int × Bs)) : List (Int × Bs) := (5, [123]) :: (K ++ [(5, [125])])
theorem block_K {p : P (List St)} {K : List (Int × Bs)} {ss : List St} (h : Rd p K ss gS) : Rd (blockS p) (braceK K) ss fun _ => true := by
  intro l r hl _
  obtain ⟨t, l', rfl, hk, ht, hl'⟩ := kt_cons hl
  obtain ⟨l1, l2, rfl, h1, h2⟩ := kt_app hl'
  obtain ⟨u, l3, rfl, hk2, ht2, h3⟩ := kt_cons h2
  obtain rfl := kt_nil h3
  unfold blockS
  rw [List.cons_append, expectS, if_pos (sees_is (Or.inr hk) ht), List.tail_cons, expectS]
  simp only [PR.bind, PR.map]
  rw [List.append_assoc, h l1 ([u] ++ r) h1 (by
    unfold gS goesOn stepWordsS
    rw [List.singleton_append]
    simp only [List.any_cons, List.any_nil]
    rw [sees_not (by rw [ht2]; decide), sees_not (by rw [ht2]; decide), sees_not (by rw [ht2]; decide), sees_not (by rw [ht2]; decide), sees_not (by rw [ht2]; decide), sees_not (by rw [ht2]; decide), sees_not (by rw [ht2]; decide)]
    rfl)]
  simp only
  rw [List.singleton_append, expectS, if_pos (sees_is (Or.inr hk2) ht2)]
  rfl
theorem brace_noAO {l : List Tk} {K : List (Int × Bs)} {r : List Tk} (h : l.map ktq = braceK K) : noAO (l ++ r) = true := by
  obtain ⟨t, l', rfl, hk, ht, hl'⟩ := kt_cons h
  unfold noAO
  rw [List.cons_append, sees_not (by rw [ht]; decide), sees_not (by rw [ht]; decide)]
  rfl
theorem if_K {p : P (List St)} {Kc Kt : List (Int × Bs)} {c : Cd} {th : List St} (hc : Rd (condS 16) Kc c noAO) (ht : Rd p Kt th gS) : Rd (stepWith (some p)) ((1, wIf) :: (Kc ++ braceK Kt)) (.mk 2 0 c th []) noElse := by
  intro l r hl hr
  obtain ⟨t, l', rfl, hk, htx, hl'⟩ := kt_cons hl
  obtain ⟨l1, l2, rfl, h1, h2⟩ := kt_app hl'
  unfold stepWith
  rw [List.cons_append, if_pos (sees_is (Or.inl hk) htx)]
  simp only [List.tail_cons]
  rw [List.append_assoc, hc l1 (l2 ++ r) h1 (brace_noAO h2)]
  simp only [PR.bind]
  rw [block_K ht l2 r h2 rfl]
  simp only
  rw [if_neg (by unfold noElse at hr; simp at hr; rw [hr]; decide)]
theorem ifelse_K {p : P (List St)} {Kc Kt Ke : List (Int × Bs)} {c : Cd} {th el : List St} (hc : Rd (condS 16) Kc c noAO) (ht : Rd p Kt th gS) (he : Rd p Ke el gS) :
    Rd (stepWith (some p)) ((1, wIf) :: (Kc ++ (braceK Kt ++ ((1, wElse) :: braceK Ke)))) (.mk 2 0 c th el) noElse := by
  intro l r hl hr
  obtain ⟨t, l', rfl, hk, htx, hl'⟩ := kt_cons hl
  obtain ⟨l1, l2, rfl, h1, h2⟩ := kt_app hl'
  obtain ⟨l3, l4, rfl, h3, h4⟩ := kt_app h2
  obtain ⟨u, l5, rfl, hk2, ht2, h5⟩ := kt_cons h4
  unfold stepWith
  rw [List.cons_append, if_pos (sees_is (Or.inl hk) htx)]
  simp only [List.tail_cons]
  rw [List.append_assoc, hc l1 _ h1 (by rw [List.append_assoc]; exact brace_noAO h3)]
  simp only [PR.bind]
  rw [List.append_assoc, block_K ht l3 _ h3 rfl]
  simp only
  rw [List.cons_append, if_pos (sees_is (Or.inl hk2) ht2), List.tail_cons, block_K he l5 r h5 rfl]
  rfl
/-- The tokens of a step begin with a word that steps begin with. -/
def starts (K : List (Int × Bs)) : Prop := ∃ x r, K = (1, x) :: r ∧ (x = wIf ∨ ∃ b, x = byN b)
theorem starts_go {K : List (Int × Bs)} (h : starts K) {l r : List Tk} (hl : l.map ktq = K) : goesOn (l ++ r) = true ∧ noElse (l ++ r) = true := by
  obtain ⟨x, K', rfl, hx⟩ := h
  obtain ⟨t, l', rfl, hk, ht, -⟩ := kt_cons hl
  rw [List.cons_append]
  unfold goesOn noElse stepWordsS
  rcases hx with rfl | ⟨b, rfl⟩
  · rw [sees_is (Or.inl hk) ht, sees_not (by rw [ht]; decide)]; exact ⟨rfl, rfl⟩
  · refine ⟨?_, by rw [sees_not (by rw [ht]; rcases byN_cases b with h | h | h | h | h <;> rw [h] <;> decide)]; rfl⟩
    simp only [List.any_cons, List.any_nil, Bool.or_eq_true]
    rcases byN_cases b with h | h | h | h | h
    · exact Or.inr (Or.inl (sees_is (Or.inl hk) (ht.trans h)))
    · exact Or.inr (Or.inr (Or.inl (sees_is (Or.inl hk) (ht.trans h))))
    · exact Or.inr (Or.inr (Or.inr (Or.inl (sees_is (Or.inl hk) (ht.trans h)))))
    · exact Or.inr (Or.inr (Or.inr (Or.inr (Or.inl (sees_is (Or.inl hk) (ht.trans h))))))
    · exact Or.inr (Or.inr (Or.inr (Or.inr (Or.inr (Or.inl (sees_is (Or.inl hk) (ht.trans h)))))))
theorem moreSteps_K {p : P St} : ∀ (xs : List (List (Int × Bs) × St)), (∀ x ∈ xs, starts x.1 ∧ Rd p x.1 x.2 noElse) → ∀ (l r : List Tk) (acc : List St) (f : Nat), l.map ktq = (xs.map (·.1)).flatten → gS r = true → (l ++ r).length ≤ f →
    moreStepsS p f (l ++ r) acc = .ok (acc ++ xs.map (·.2)) r
  | [], _, l, r, acc, f, hl, hr, _ => by
    obtain rfl := kt_nil hl
    have hg : goesOn r = false := by unfold gS at hr; rw [Bool.and_eq_true] at hr; simpa using hr.1
    rw [List.nil_append, List.map_nil, List.append_nil]
    cases f with
    | zero => rfl
    | succ f => rw [moreStepsS, if_neg (by rw [hg]; decide)]
  | x :: xs, h, l, r, acc, f, hl, hr, hf => by
    obtain ⟨la, lb, rfl, ha, hb⟩ := kt_app (show l.map ktq = x.1 ++ (xs.map (·.1)).flatten from hl)
    obtain ⟨hs, hp⟩ := h x (List.mem_cons_self ..)
    have hla : 0 < la.length := by
      obtain ⟨w, K', e, -⟩ := hs
      rw [e] at ha
      obtain ⟨t, l', rfl, -⟩ := kt_cons ha
      simp
    obtain ⟨f, rfl⟩ : ∃ g, f = g + 1 := ⟨f - 1, by simp at hf; omega⟩
    rw [List.append_assoc]
    have hne : noElse (lb ++ r) = true := by
      cases xs with
      | nil =>
        obtain rfl := kt_nil hb
        unfold gS at hr; rw [Bool.and_eq_true] at hr; exact hr.2
      | cons y ys =>
        obtain ⟨lc, ld, rfl, hc, -⟩ := kt_app (show lb.map ktq = y.1 ++ (ys.map (·.1)).flatten from hb)
        rw [List.append_assoc]
        exact (starts_go (h y (List.mem_cons_of_mem _ (List.mem_cons_self ..))).1 hc).2
    rw [moreStepsS, if_pos (starts_go hs ha).1, hp la (lb ++ r) ha hne]
    simp only [PR.bind]
    rw [moreSteps_K xs (fun y hy => h y (List.mem_cons_of_mem _ hy)) lb r (acc ++ [x.2]) f hb hr (by simp at hf ⊢; omega)]
    simp
theorem steps_K {p : P St} (x : List (Int × Bs) × St) (xs : List (List (Int × Bs) × St)) (h : ∀ y ∈ x :: xs, starts y.1 ∧ Rd p y.1 y.2 noElse) : Rd (stepsOf p) (((x :: xs).map (·.1)).flatten) ((x :: xs).map (·.2)) gS := by
  intro l r hl hr
  obtain ⟨la, lb, rfl, ha, hb⟩ := kt_app (show l.map ktq = x.1 ++ (xs.map (·.1)).flatten from hl)
  have hne : noElse (lb ++ r) = true := by
    cases xs with
    | nil =>
      obtain rfl := kt_nil hb
      unfold gS at hr; rw [Bool.and_eq_true] at hr; exact hr.2
    | cons y ys =>
      obtain ⟨lc, ld, rfl, hc, -⟩ := kt_app (show lb.map ktq = y.1 ++ (ys.map (·.1)).flatten from hb)
      rw [List.append_assoc]
      exact (starts_go (h y (List.mem_cons_of_mem _ (List.mem_cons_self ..))).1 hc).2
  unfold stepsOf
  rw [List.append_assoc, (h x (List.mem_cons_self ..)).2 la (lb ++ r) ha hne]
  simp only [PR.bind]
  rw [moreSteps_K xs (fun y hy => h y (List.mem_cons_of_mem _ hy)) lb r [x.2] _ hb hr (Nat.le_refl _)]
  rfl

/- The texts. -/
theorem lxBy (b : Int) : Lx stopB (byN b) [(1, byN b)] := by
  rcases byN_cases b with h | h | h | h | h <;> rw [h] <;> exact lx_word rfl (by decide) (by decide)
theorem lx_braces {s : Bs} {K : List (Int × Bs)} (h : Lx anyB s K) : Lx anyB (bracesB s) (braceK K) :=
  (Lx.sign1 123 (by decide)).app0 (h.app0 (Lx.sign1 125 (by decide)))
def goOf : Nat → Option (P (List St))
  | 0 => none
  | u + 1 => some (stepsS u)
theorem stepsS_eq (lv : Nat) : stepsS lv = stepsOf (stepWith (goOf lv)) := by
  cases lv <;> rfl
/-- What a step's text is. -/
structure TT (g : Nat) (s : St) (x : Bs) (K : List (Int × Bs)) : Prop where
  lx : Lx anyB x K
  st : starts K
  rd : ∀ lv, g ≤ lv → Rd (stepWith (goOf lv)) K s noElse
theorem flat_K (g : Nat) (q : St → Option Bs) (hq : ∀ s x, q s = some x → ∃ K, TT g s x K) : ∀ (ss : List St) (xs : List Bs), allO (ss.map q) = some xs → ∃ Ks : List (List (Int × Bs) × St), Ks.map (·.2) = ss ∧ Lx anyB xs.flatten (Ks.map (·.1)).flatten ∧ ∀ y ∈ Ks, starts y.1 ∧ ∀ lv, g ≤ lv → Rd (stepWith (goOf lv)) y.1 y.2 noElse
  | [], xs, h => by cases h; exact ⟨[], rfl, Lx.nil _, by simp⟩
  | s :: ss, xs, h => by
    rw [List.map_cons] at h
    cases hp : q s with
    | none => rw [hp] at h; cases h
    | some x =>
      rw [hp] at h
      cases hr : allO (ss.map q) with
      | none => simp [allO, hr] at h
      | some xs' =>
        simp only [allO, hr, Option.map_some, Option.some.injEq] at h
        subst h
        obtain ⟨Ks, h1, h2, h3⟩ := flat_K g q hq ss xs' hr
        obtain ⟨K, hK⟩ := hq s x hp
        refine ⟨(K, s) :: Ks, by simp [h1], ?_, fun y hy => ?_⟩
        · exact hK.lx.app0 h2
        · rcases List.mem_cons.1 hy with rfl | hy
          · exact ⟨hK.st, hK.rd⟩
          · exact h3 y hy
theorem zero_of {c : Cd} (h : c.isZero = true) : c = .zero := by
  obtain ⟨k, v, n, ps⟩ := c
  simp only [Cd.isZero, decide_eq_true_eq] at h
  obtain ⟨rfl, rfl, rfl, h⟩ := h
  rw [List.eq_nil_of_length_eq_zero h]
  rfl
theorem stepT_ok (g : Nat) (ih : ∀ ss s, stepsT g ss = some s → ∃ K, Lx anyB s K ∧ ∀ u, g ≤ u + 1 → Rd (stepsS u) K ss gS) (s : St) (x : Bs) (h : stepT (stepsT g) s = some x) : ∃ K, TT g s x K := by
  obtain ⟨k, b, c, th, el⟩ := s
  rw [stepT] at h
  by_cases hk : k = 1
  · rw [if_pos hk] at h
    by_cases hc : 1 ≤ b ∧ b ≤ 5 ∧ c.isZero = true ∧ th.length = 0 ∧ el.length = 0
    · rw [if_pos hc, Option.some.injEq] at h
      obtain ⟨h1, h5, hz, ht, he⟩ := hc
      have hz := zero_of hz
      subst hk hz h
      obtain rfl := List.eq_nil_of_length_eq_zero ht
      obtain rfl := List.eq_nil_of_length_eq_zero he
      refine ⟨[(1, byN b), (5, [59])], ?_, ⟨byN b, _, rfl, Or.inr ⟨b, rfl⟩⟩, fun lv _ l r hl _ => by_K _ b h1 h5 l r hl rfl⟩
      exact (lxBy b).app ((Lx.sign1 59 (by decide)).app0 (Lx.space 10 (Or.inr rfl))) (g' := anyB) fun z _ => rfl
    · rw [if_neg hc] at h; cases h
  · rw [if_neg hk] at h
    by_cases hk2 : k = 2 ∧ b = 0
    · rw [if_pos hk2] at h
      obtain ⟨rfl, rfl⟩ := hk2
      cases hc : condT 8 c with
      | none => rw [hc] at h; cases h
      | some sc =>
        cases ha : stepsT g th with
        | none => rw [hc, ha] at h; cases h
        | some a =>
          rw [hc, ha] at h
          simp only at h
          obtain ⟨Kc, hKc⟩ := condT_ok 8 c sc hc
          obtain ⟨Kt, hKt, hRt⟩ := ih th a ha
          have hg : 1 ≤ g := by
            cases g with
            | zero => cases ha
            | succ g => omega
          by_cases he : el.length = 0
          · rw [if_pos he, Option.some.injEq] at h
            subst h
            obtain rfl := List.eq_nil_of_length_eq_zero he
            refine ⟨(1, wIf) :: (Kc ++ braceK Kt), ?_, ⟨wIf, _, rfl, Or.inl rfl⟩, fun lv hlv => ?_⟩
            · exact lx_wsp (lx_word rfl (by decide) (by decide)) (hKc.lx.app (lx_sp (lx_braces hKt)) fun z _ => rfl)
            · obtain ⟨lv, rfl⟩ : ∃ u, lv = u + 1 := ⟨lv - 1, by omega⟩
              exact if_K (hKc.rd 16 (by omega)) (hRt lv hlv)
          · rw [if_neg he] at h
            cases hse : stepsT g el with
            | none => rw [hse] at h; cases h
            | some e =>
              rw [hse, Option.map_some, Option.some.injEq] at h
              subst h
              obtain ⟨Ke, hKe, hRe⟩ := ih el e hse
              refine ⟨(1, wIf) :: (Kc ++ (braceK Kt ++ ((1, wElse) :: braceK Ke))), ?_, ⟨wIf, _, rfl, Or.inl rfl⟩, fun lv hlv => ?_⟩
              · exact lx_wsp (lx_word rfl (by decide) (by decide)) (hKc.lx.app (lx_sp ((lx_braces hKt).app0 (lx_sp (lx_wsp (lx_word rfl (by decide) (by decide)) (lx_braces hKe))))) fun z _ => rfl)
              · obtain ⟨lv, rfl⟩ : ∃ u, lv = u + 1 := ⟨lv - 1, by omega⟩
                exact ifelse_K (hKc.rd 16 (by omega)) (hRt lv hlv) (hRe lv hlv)
    · rw [if_neg hk2] at h; cases h
theorem stepsT_ok : ∀ (g : Nat) (ss : List St) (s : Bs), stepsT g ss = some s → ∃ K, Lx anyB s K ∧ ∀ lv, g ≤ lv + 1 → Rd (stepsS lv) K ss gS
  | 0, ss, s, h => by cases h
  | g + 1, ss, s, h => by
    rw [stepsT] at h
    by_cases hl : 1 ≤ ss.length ∧ ss.length ≤ 12
    · rw [if_pos hl] at h
      cases hx : allO (ss.map (stepT (stepsT g))) with
      | none => rw [hx] at h; cases h
      | some xs =>
        rw [hx, Option.map_some, Option.some.injEq] at h
        subst h
        obtain ⟨Ks, h1, h2, h3⟩ := flat_K g (stepT (stepsT g)) (stepT_ok g (stepsT_ok g)) ss xs hx
        refine ⟨_, h2, fun lv hlv => ?_⟩
        rw [stepsS_eq, ← h1]
        cases Ks with
        | nil => subst h1; simp at hl
        | cons y Ks => exact steps_K y Ks fun z hz => ⟨(h3 z hz).1, (h3 z hz).2 lv (by omega)⟩
    · rw [if_neg hl] at h; cases h
/-- Steps that are written down are read again. -/
theorem steps_again {ss : List St} {s : Bs} (h : stepsT 5 ss = some s) (hs : s.length ≤ 65536) : readS (stepsS 16) s = .yes ss := by
  obtain ⟨K, hK, hR⟩ := stepsT_ok 5 ss s h
  obtain ⟨h1, h2⟩ := Lx.all_ hK
  obtain ⟨l1, l2, e, ha, hb⟩ := kt_app h2
  obtain ⟨t, l3, rfl, hk, ht, h3⟩ := kt_cons hb
  obtain rfl := kt_nil h3
  have hp := hR 16 (by omega) l1 [t] ha (by
    unfold gS goesOn stepWordsS
    simp only [List.any_cons, List.any_nil]
    rw [sees_kind (by omega) (by omega), sees_kind (by omega) (by omega), sees_kind (by omega) (by omega), sees_kind (by omega) (by omega), sees_kind (by omega) (by omega), sees_kind (by omega) (by omega), sees_kind (by omega) (by omega)]
    rfl)
  unfold readS
  rw [if_neg (by omega), h1, e, hp]
  simp only [endS, PR.bind]
  rw [if_pos (by show (t.k == 6) = true; rw [hk]; rfl)]
end Go.Proofs.YtdhdjfkknfbmhaaGreatDoor
/- How long the texts are. -/
namespace Go.Proofs.YtdhdjfkknfbmhaaGreatDoor

/-- How long the text of a condition may be; the number is that of the levels left. -/
def bC : Nat → Nat
  | 0 => 0
  | f + 1 => 16 * bC f + 160
theorem moreB_len (b : Nat) (w : Bs) (hw : w.length ≤ 3) (p : Cd → Option Bs) (ih : ∀ c s, p c = some s → s.length ≤ b) : ∀ (ps : List Cd) (ss : List Bs), allO (ps.map p) = some ss → (moreB w ss).length ≤ ps.length * (b + 7) ∧ (joinB w ss).length ≤ ps.length * (b + 7)
  | [], ss, h => by cases h; simp [moreB, joinB]
  | c :: ps, ss, h => by
    rw [List.map_cons] at h
    cases hp : p c with
    | none => rw [hp] at h; cases h
    | some s =>
      rw [hp] at h
      cases hr : allO (ps.map p) with
      | none => simp [allO, hr] at h
      | some ss' =>
        simp only [allO, hr, Option.map_some, Option.some.injEq] at h
        subst h
        have h1 := (moreB_len b w hw p ih ps ss' hr).1
        have h2 := ih c s hp
        simp only [moreB, joinB, par, List.length_append, List.length_cons, List.length_nil, Nat.add_mul, Nat.one_mul]
        omega
theorem condT_len : ∀ (f : Nat) (c : Cd) (s : Bs), condT f c = some s → s.length ≤ bC f
  | 0, c, s, h => by cases h
  | f + 1, .mk k v n ps, s, h => by
    unfold condT at h
    rw [bC]
    by_cases h1 : k = 1
    · rw [if_pos h1] at h
      by_cases hc : 1 ≤ v ∧ v ≤ 3 ∧ 0 ≤ n ∧ n ≤ 1125899906842624 ∧ ps.length = 0
      · rw [if_pos hc, Option.some.injEq] at h
        subst h
        have e16 : (10 : Nat) ^ 16 = 10000000000000000 := by decide
        have hd := (decq_len 15 n.toNat (by omega)).2
        have hv : (varN v).length ≤ 8 := by
          unfold varN
          split
          · decide
          · split <;> decide
        simp only [List.length_append, List.length_cons, List.length_nil]
        omega
      · rw [if_neg hc] at h; cases h
    · rw [if_neg h1] at h
      by_cases h4 : k = 4
      · rw [if_pos h4] at h
        cases ps with
        | nil => cases h
        | cons c ps =>
          cases ps with
          | cons _ _ => cases h
          | nil =>
            simp only at h
            split at h
            · cases hs : condT f c with
              | none => rw [hs] at h; cases h
              | some s' =>
                rw [hs] at h
                cases h
                have := condT_len f c s' hs
                simp only [par, wNot, List.length_append, List.length_cons, List.length_nil]
                omega
            · cases h
      · rw [if_neg h4] at h
        split at h
        · rename_i hc
          cases hs : allO (ps.map (condT f)) with
          | none => rw [hs] at h; cases h
          | some ss =>
            rw [hs] at h
            cases h
            have h16 := hc.2.2.1
            have := (moreB_len (bC f) (if k = 3 then wOr else wAnd) (by split <;> decide) (condT f) (condT_len f) ps ss hs).2
            have h17 := Nat.mul_le_mul_right (bC f + 7) h16
            omega
        · cases h
/-- One more is written. -/
theorem joinB_snoc (w : Bs) (s : Bs) : ∀ (ss : List Bs), joinB w (ss ++ [s]) = if ss = [] then par s else joinB w ss ++ ([32] ++ (w ++ ([32] ++ par s)))
  | [] => by simp [joinB, moreB]
  | a :: ss => by
    have hm : ∀ ss : List Bs, moreB w (ss ++ [s]) = moreB w ss ++ ([32] ++ (w ++ ([32] ++ par s))) := by
      intro ss
      induction ss with
      | nil => simp [moreB]
      | cons b ss ih => rw [List.cons_append, moreB, ih, moreB]; simp
    rw [List.cons_append, joinB, hm, joinB, if_neg (by simp), List.append_assoc]
theorem allO_snoc {α : Type} (p : α → Option Bs) (a : α) (l : List α) (ss : List Bs) (h : allO (l.map p) = some ss) : allO ((l ++ [a]).map p) = match p a with | some s => some (ss ++ [s]) | none => none := by
  induction l generalizing ss with
  | nil => cases h; cases hp : p a <;> simp [allO, hp]
  | cons b l ih =>
    rw [List.map_cons] at h
    cases hb : p b with
    | none => rw [hb] at h; cases h
    | some s =>
      rw [hb] at h
      cases hr : allO (l.map p) with
      | none => simp [allO, hr] at h
      | some ss' =>
        simp only [allO, hr, Option.map_some, Option.some.injEq] at h
        subst h
        have := ih ss' hr
        rw [List.cons_append, List.map_cons, hb]
        simp only [allO]
        rw [this]
        cases p a <;> rfl
theorem allO_none {α : Type} (p : α → Option Bs) (l : List α) (i : Nat) (h : i < l.length) (hp : p l[i] = none) : allO (l.map p) = none := by
  induction l generalizing i with
  | nil => simp at h
  | cons b l ih =>
    cases i with
    | zero =>
      rw [List.getElem_cons_zero] at hp
      rw [List.map_cons, hp]; rfl
    | succ i =>
      rw [List.map_cons]
      cases p b with
      | none => rfl
      | some s =>
        simp only [allO]
        rw [ih i (by simpa using h) (by simpa using hp)]
        rfl
end Go.Proofs.YtdhdjfkknfbmhaaGreatDoor
