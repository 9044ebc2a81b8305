/- Plain mathematics of encodings: values, numerals, reading. -/
namespace Go.Proofs.Ytopkpdaingmmeaa

inductive V where
  | mk (k n : Int) (s : ByteArray) (l : List V)

namespace V
def k : V → Int | .mk k _ _ _ => k
def n : V → Int | .mk _ n _ _ => n
def s : V → ByteArray | .mk _ _ s _ => s
def l : V → List V | .mk _ _ _ l => l
end V

mutual
def rank : V → Nat
  | .mk _ _ _ l => rankL l + 1
def rankL : List V → Nat
  | [] => 0
  | x :: r => max (rank x) (rankL r)
end
theorem rank_mk (k n : Int) (s : ByteArray) (l : List V) : rank (.mk k n s l) = rankL l + 1 := by rw [rank]
theorem rankL_mem (x : V) : ∀ l : List V, x ∈ l → rank x ≤ rankL l := by
  intro l
  induction l with
  | nil => intro h; cases h
  | cons a l ih =>
    intro h
    rw [rankL]
    rcases List.mem_cons.1 h with rfl | h
    · exact Nat.le_max_left _ _
    · exact Nat.le_trans (ih h) (Nat.le_max_right _ _)
theorem rank_lt (k n : Int) (s : ByteArray) (l : List V) (x : V) (h : x ∈ l) : rank x < rank (.mk k n s l) := by
  rw [rank_mk]; have := rankL_mem x l h; omega

mutual
def formed : V → Bool
  | .mk k n s l => if k = 1 then decide (s.size = 0) && decide (l.length = 0) else if k = 2 then decide (n = 0) && decide (l.length = 0) else if k = 3 then decide (n = 0) && (decide (s.size = 0) && formedL l) else false
def formedL : List V → Bool
  | [] => true
  | x :: r => formed x && formedL r
end
theorem formedL_all (l : List V) : formedL l = l.all formed := by
  induction l with
  | nil => rfl
  | cons a l ih => rw [formedL, ih]; rfl
mutual
def depth : V → Nat
  | .mk k _ _ l => if k = 3 then 1 + depthL l else 0
def depthL : List V → Nat
  | [] => 0
  | x :: r => max (depth x) (depthL r)
end

def num (u : Nat) : List UInt8 := (if u < 128 then [UInt8.ofNat u] else UInt8.ofNat (u % 128 + 128) :: num (u / 128)) termination_by u decreasing_by omega

def uns (n : Int) : Nat := if n < 0 then (-2 * n - 1).toNat else (2 * n).toNat
mutual
def enc : V → List UInt8
  | .mk k n s l => if k = 1 then 1 :: num (uns n) else if k = 2 then 2 :: (num s.size ++ s.data.toList) else 3 :: (num l.length ++ encL l)
def encL : List V → List UInt8
  | [] => []
  | x :: r => enc x ++ encL r
end
end Go.Proofs.Ytopkpdaingmmeaa
namespace Go.Proofs.Ytopkpdaingmmeaa
theorem num_lt {u : Nat} (h : u < 128) : num u = [UInt8.ofNat u] := by rw [num, if_pos h]
theorem num_ge {u : Nat} (h : ¬ u < 128) : num u = UInt8.ofNat (u % 128 + 128) :: num (u / 128) := by rw [num, if_neg h]
/-- What the reader of numerals reads: the shift, what has been read, the bytes. -/
def rdNum : Nat → Nat → List UInt8 → Option (Nat × List UInt8)
  | _, _, [] => none
  | sh, acc, c :: r =>
    if (c.toNat = 0 ∧ 0 < sh) ∨ 18446744073709551616 ≤ c.toNat % 128 * 2 ^ sh then none
    else if c.toNat < 128 then some (acc + c.toNat % 128 * 2 ^ sh, r) else rdNum (sh + 7) (acc + c.toNat % 128 * 2 ^ sh) r
theorem two_pow_7 (sh : Nat) : 2 ^ (sh + 7) = 128 * 2 ^ sh := by rw [Nat.pow_add]; omega
theorem pow_room (sh d v : Nat) (hd : d < 128) (hv : 0 < v) (h : v * 2 ^ (sh + 7) < 18446744073709551616) : d * 2 ^ sh + v * 2 ^ (sh + 7) < 18446744073709551616 := by
  have h1 : sh + 7 < 64 := by
    refine Nat.lt_of_not_le fun hh => ?_
    have : 2 ^ 64 ≤ 2 ^ (sh + 7) := Nat.pow_le_pow_right (by omega) hh
    have h2 : 1 * 2 ^ (sh + 7) ≤ v * 2 ^ (sh + 7) := Nat.mul_le_mul_right _ hv
    omega
  have h2 : 18446744073709551616 = 2 ^ (57 - sh) * 2 ^ (sh + 7) := by rw [← Nat.pow_add, show 57 - sh + (sh + 7) = 64 by omega]
  have h3 : v < 2 ^ (57 - sh) := by
    refine Nat.lt_of_not_le fun hh => ?_
    have := Nat.mul_le_mul_right (2 ^ (sh + 7)) hh
    omega
  have h4 : (v + 1) * 2 ^ (sh + 7) ≤ 2 ^ (57 - sh) * 2 ^ (sh + 7) := Nat.mul_le_mul_right _ h3
  have h5 : d * 2 ^ sh < 128 * 2 ^ sh := Nat.mul_lt_mul_of_pos_right hd (Nat.two_pow_pos sh)
  rw [Nat.add_mul, Nat.one_mul] at h4
  have h6 := two_pow_7 sh
  omega
theorem toNat_ofNat (n : Nat) (h : n < 256) : (UInt8.ofNat n).toNat = n := by
  rw [UInt8.toNat_ofNat']; exact Nat.mod_eq_of_lt h
theorem rdNum_iff (bs : List UInt8) : ∀ (sh acc u : Nat) (r : List UInt8), rdNum sh acc bs = some (u, r) ↔
    ∃ v, u = acc + v * 2 ^ sh ∧ v * 2 ^ sh < 18446744073709551616 ∧ (0 < sh → 0 < v) ∧ bs = num v ++ r := by
  induction bs with
  | nil =>
    intro sh acc u r
    constructor
    · intro h; cases h
    · rintro ⟨v, _, _, _, h⟩
      by_cases hv : v < 128
      · rw [num_lt hv] at h; cases h
      · rw [num_ge hv] at h; cases h
  | cons c r0 ih =>
    intro sh acc u r
    have hc := c.toNat_lt
    have hcc : UInt8.ofNat c.toNat = c := UInt8.ofNat_toNat
    constructor
    · intro h
      rw [rdNum] at h
      split at h
      · cases h
      · next h1 =>
        split at h
        · next h2 =>
          have hm : c.toNat % 128 = c.toNat := by omega
          rw [hm] at h h1
          obtain ⟨rfl, rfl⟩ := Prod.mk.inj (Option.some.inj h)
          refine ⟨c.toNat, rfl, by omega, fun _ => by omega, ?_⟩
          rw [num_lt h2, hcc]; rfl
        · next h2 =>
          obtain ⟨v, rfl, h3, h4, rfl⟩ := (ih _ _ _ _).1 h
          have hv := h4 (by omega)
          have hroom := pow_room sh (c.toNat % 128) v (by omega) hv h3
          refine ⟨c.toNat % 128 + 128 * v, ?_, ?_, fun _ => by omega, ?_⟩
          · rw [two_pow_7, Nat.add_mul, Nat.add_assoc, ← Nat.mul_assoc, Nat.mul_comm v 128]
          · rw [two_pow_7, ← Nat.mul_assoc, Nat.mul_comm v 128] at hroom
            rw [Nat.add_mul]; exact hroom
          · rw [num_ge (u := c.toNat % 128 + 128 * v) (by omega), show (c.toNat % 128 + 128 * v) % 128 + 128 = c.toNat by omega, show (c.toNat % 128 + 128 * v) / 128 = v by omega, hcc]; rfl
    · rintro ⟨v, rfl, h2, h3, h4⟩
      by_cases hv : v < 128
      · rw [num_lt hv] at h4
        obtain ⟨rfl, rfl⟩ := List.cons.inj h4
        have e : (UInt8.ofNat v).toNat = v := toNat_ofNat v (by omega)
        have e2 : v % 128 = v := by omega
        rw [rdNum, e, e2, if_neg (by rintro (⟨h5, h6⟩ | h5); (have := h3 h6; omega); omega), if_pos hv]
      · rw [num_ge hv] at h4
        obtain ⟨rfl, rfl⟩ := List.cons.inj h4
        have e : (UInt8.ofNat (v % 128 + 128)).toNat = v % 128 + 128 := toNat_ofNat _ (by omega)
        have e2 : (v % 128 + 128) % 128 = v % 128 := by omega
        have hle : v % 128 * 2 ^ sh + v / 128 * 2 ^ (sh + 7) = v * 2 ^ sh := by
          rw [two_pow_7, ← Nat.mul_assoc, ← Nat.add_mul]; congr 1; omega
        rw [rdNum, e, e2, if_neg (by rintro (⟨h5, _⟩ | h5); omega; omega), if_neg (by omega)]
        exact (ih _ _ _ _).2 ⟨v / 128, by omega, by omega, fun _ => by omega, rfl⟩
end Go.Proofs.Ytopkpdaingmmeaa
namespace Go.Proofs.Ytopkpdaingmmeaa
theorem rdNum0_iff (bs : List UInt8) (u : Nat) (r : List UInt8) : rdNum 0 0 bs = some (u, r) ↔ u < 18446744073709551616 ∧ bs = num u ++ r := by
  rw [rdNum_iff]
  constructor
  · rintro ⟨v, rfl, h1, _, h2⟩
    simp only [Nat.pow_zero, Nat.mul_one, Nat.zero_add] at *
    exact ⟨h1, h2⟩
  · rintro ⟨h1, h2⟩
    exact ⟨u, by simp, by simpa using h1, fun h => absurd h (by omega), h2⟩
/-- The integer with an unsigned form. -/
def sgn (u : Nat) : Int := if u % 2 = 1 then -(u / 2 : Nat) - 1 else (u / 2 : Nat)
theorem sgn_uns (n : Int) : sgn (uns n) = n := by
  unfold sgn uns
  split <;> split <;> omega
theorem uns_sgn (u : Nat) : uns (sgn u) = u := by
  unfold sgn uns
  split <;> split <;> omega
def Fit64 (n : Int) : Prop := -9223372036854775808 ≤ n ∧ n ≤ 9223372036854775807
theorem uns_fit (n : Int) : uns n < 18446744073709551616 ↔ Fit64 n := by
  unfold uns Fit64
  split <;> omega
mutual
/-- All numbers fit their kinds. -/
def Fits : V → Prop
  | .mk _ n s l => Fit64 n ∧ s.size < 18446744073709551616 ∧ l.length < 18446744073709551616 ∧ FitsL l
def FitsL : List V → Prop
  | [] => True
  | x :: r => Fits x ∧ FitsL r
end
theorem FitsL_all (l : List V) : FitsL l ↔ ∀ x ∈ l, Fits x := by
  induction l with
  | nil => simp [FitsL]
  | cons a l ih => rw [FitsL, ih]; simp
theorem depthL_le (l : List V) (d : Nat) : depthL l ≤ d ↔ ∀ x ∈ l, depth x ≤ d := by
  induction l with
  | nil => simp [depthL]
  | cons a l ih => rw [depthL, Nat.max_le, ih]; simp
/-- Many values, one after the other. -/
def rdMany (f : List UInt8 → Option (V × List UInt8)) : Nat → List UInt8 → Option (List V × List UInt8)
  | 0, bs => some ([], bs)
  | n + 1, bs => match f bs with
    | none => none
    | some (v, r) => match rdMany f n r with
      | none => none
      | some (l, r') => some (v :: l, r')
/-- What the reader of values reads, at a depth. -/
def rdV : Nat → List UInt8 → Option (V × List UInt8)
  | _, [] => none
  | d, c :: r =>
    if c.toNat = 1 then (match rdNum 0 0 r with
      | none => none
      | some (u, r') => some (.mk 1 (sgn u) ⟨#[]⟩ [], r'))
    else if c.toNat = 2 then (match rdNum 0 0 r with
      | none => none
      | some (u, r') => if r'.length < u then none else some (.mk 2 0 ⟨(r'.take u).toArray⟩ [], r'.drop u))
    else if c.toNat = 3 then (match d with
      | 0 => none
      | d + 1 => match rdNum 0 0 r with
        | none => none
        | some (u, r') => if r'.length < u then none else match rdMany (rdV d) u r' with
          | none => none
          | some (l, r'') => some (.mk 3 0 ⟨#[]⟩ l, r''))
    else none
/-- v can be read at depth d. -/
def Good (d : Nat) (v : V) : Prop := formed v = true ∧ depth v ≤ d ∧ Fits v
theorem enc_pos (v : V) : 0 < (enc v).length := by
  cases v with
  | mk k n s l => rw [enc]; split; simp; split <;> simp
theorem encL_len (l : List V) : l.length ≤ (encL l).length := by
  induction l with
  | nil => simp
  | cons a l ih => rw [encL, List.length_append, List.length_cons]; have := enc_pos a; omega
theorem rdMany_iff (d : Nat) (f : List UInt8 → Option (V × List UInt8)) (hf : ∀ bs v r, f bs = some (v, r) ↔ Good d v ∧ bs = enc v ++ r) :
    ∀ (n : Nat) (bs : List UInt8) (l : List V) (r : List UInt8), rdMany f n bs = some (l, r) ↔ (∀ x ∈ l, Good d x) ∧ l.length = n ∧ bs = encL l ++ r := by
  intro n
  induction n with
  | zero =>
    intro bs l r
    rw [rdMany]
    constructor
    · intro h
      obtain ⟨rfl, rfl⟩ := Prod.mk.inj (Option.some.inj h)
      simp [encL]
    · rintro ⟨_, h, rfl⟩
      obtain rfl := List.length_eq_zero_iff.1 h
      simp [encL]
  | succ n ih =>
    intro bs l r
    rw [rdMany]
    constructor
    · intro h
      split at h
      · cases h
      · next v r1 e1 =>
        split at h
        · cases h
        · next l1 r2 e2 =>
          obtain ⟨rfl, rfl⟩ := Prod.mk.inj (Option.some.inj h)
          obtain ⟨g1, rfl⟩ := (hf _ _ _).1 e1
          obtain ⟨g2, rfl, rfl⟩ := (ih _ _ _).1 e2
          refine ⟨?_, rfl, by rw [encL, List.append_assoc]⟩
          intro x hx
          rcases List.mem_cons.1 hx with rfl | hx
          · exact g1
          · exact g2 x hx
    · rintro ⟨h1, h2, rfl⟩
      cases l with
      | nil => simp at h2
      | cons v l =>
        have e1 : f (encL (v :: l) ++ r) = some (v, encL l ++ r) := (hf _ _ _).2 ⟨h1 v (by simp), by rw [encL, List.append_assoc]⟩
        have e2 : rdMany f n (encL l ++ r) = some (l, r) := (ih _ _ _).2 ⟨fun x hx => h1 x (by simp [hx]), by simpa using h2, rfl⟩
        rw [e1]; dsimp only; rw [e2]
theorem good_list (d : Nat) (l : List V) (hl : l.length < 18446744073709551616) : Good (d + 1) (.mk 3 0 ⟨#[]⟩ l) ↔ ∀ x ∈ l, Good d x := by
  unfold Good
  rw [formed, depth, Fits, formedL_all, FitsL_all]
  simp only [if_true, show ¬ ((3 : Int) = 1) by decide, show ¬ ((3 : Int) = 2) by decide, if_false]
  rw [show 1 + depthL l ≤ d + 1 ↔ depthL l ≤ d by omega, depthL_le]
  simp only [Bool.and_eq_true, List.all_eq_true]
  constructor
  · rintro ⟨⟨_, _, h1⟩, h2, _, _, _, h3⟩ x hx
    exact ⟨h1 x hx, h2 x hx, h3 x hx⟩
  · intro h
    exact ⟨⟨by decide, by decide, fun x hx => (h x hx).1⟩, fun x hx => (h x hx).2.1, by unfold Fit64; omega, by decide, hl, fun x hx => (h x hx).2.2⟩
end Go.Proofs.Ytopkpdaingmmeaa
namespace Go.Proofs.Ytopkpdaingmmeaa
theorem formed_int (n : Int) (s : ByteArray) (l : List V) : formed (.mk 1 n s l) = true ↔ s = ⟨#[]⟩ ∧ l = [] := by
  rw [formed, if_pos rfl, Bool.and_eq_true, decide_eq_true_iff, decide_eq_true_iff, List.length_eq_zero_iff]
  refine and_congr_left fun _ => ⟨fun h => ?_, fun h => by rw [h]; rfl⟩
  cases s with
  | mk data => exact congrArg ByteArray.mk (Array.eq_empty_of_size_eq_zero h)
theorem formed_text (n : Int) (s : ByteArray) (l : List V) : formed (.mk 2 n s l) = true ↔ n = 0 ∧ l = [] := by
  rw [formed, if_neg (by decide), if_pos rfl, Bool.and_eq_true, decide_eq_true_iff, decide_eq_true_iff, List.length_eq_zero_iff]
theorem formed_list (n : Int) (s : ByteArray) (l : List V) : formed (.mk 3 n s l) = true ↔ n = 0 ∧ s = ⟨#[]⟩ ∧ ∀ x ∈ l, formed x = true := by
  rw [formed, if_neg (by decide), if_neg (by decide), if_pos rfl, Bool.and_eq_true, Bool.and_eq_true, decide_eq_true_iff, decide_eq_true_iff, formedL_all, List.all_eq_true]
  refine and_congr_right fun _ => and_congr_left fun _ => ⟨fun h => ?_, fun h => by rw [h]; rfl⟩
  cases s with
  | mk data => exact congrArg ByteArray.mk (Array.eq_empty_of_size_eq_zero h)
theorem formed_kind {k n : Int} {s : ByteArray} {l : List V} (h : formed (.mk k n s l) = true) : k = 1 ∨ k = 2 ∨ k = 3 := by
  rw [formed] at h
  split at h
  · omega
  · split at h
    · omega
    · split at h
      · omega
      · cases h
theorem depth_no {k n : Int} {s : ByteArray} {l : List V} (h : k ≠ 3) : depth (.mk k n s l) = 0 := by rw [depth, if_neg h]
theorem arr_toList (s : ByteArray) : (⟨s.data.toList.toArray⟩ : ByteArray) = s := by cases s; simp
theorem cons_toNat {c : UInt8} {n : Nat} (h : c.toNat = n) : c = UInt8.ofNat n := by rw [← h, UInt8.ofNat_toNat]
theorem rdV_key (d : Nat) (ih : ∀ d', d = d' + 1 → ∀ (bs : List UInt8) (v : V) (r : List UInt8), rdV d' bs = some (v, r) ↔ Good d' v ∧ bs = enc v ++ r) (bs : List UInt8) (v : V) (r : List UInt8) :
    rdV d bs = some (v, r) ↔ Good d v ∧ bs = enc v ++ r := by
  constructor
  · intro h
    cases bs with
    | nil => rw [rdV] at h; cases h
    | cons c r0 =>
      rw [rdV.eq_def] at h
      dsimp only at h
      split at h
      · next hc =>
        have hcc := cons_toNat hc
        split at h
        · cases h
        · next u r1 e1 =>
          obtain ⟨rfl, rfl⟩ := Prod.mk.inj (Option.some.inj h)
          obtain ⟨hu, rfl⟩ := (rdNum0_iff _ _ _).1 e1
          refine ⟨⟨(formed_int _ _ _).2 ⟨rfl, rfl⟩, by rw [depth_no (by decide)]; exact Nat.zero_le _, ?_⟩, ?_⟩
          · rw [Fits]; exact ⟨(uns_fit _).1 (by rw [uns_sgn]; exact hu), by decide, by decide, trivial⟩
          · rw [enc, if_pos rfl, uns_sgn, hcc]; rfl
      · split at h
        · next hc =>
          have hcc := cons_toNat hc
          split at h
          · cases h
          · next u r1 e1 =>
            split at h
            · cases h
            · next hlen =>
              obtain ⟨rfl, rfl⟩ := Prod.mk.inj (Option.some.inj h)
              obtain ⟨hu, rfl⟩ := (rdNum0_iff _ _ _).1 e1
              have hsz : (⟨(r1.take u).toArray⟩ : ByteArray).size = u := by
                show (r1.take u).toArray.size = u
                rw [List.size_toArray, List.length_take]; omega
              refine ⟨⟨(formed_text _ _ _).2 ⟨rfl, rfl⟩, by rw [depth_no (by decide)]; exact Nat.zero_le _, ?_⟩, ?_⟩
              · rw [Fits]; exact ⟨by unfold Fit64; omega, by rw [hsz]; exact hu, by decide, trivial⟩
              · rw [enc, if_neg (by decide), if_pos rfl, hsz, hcc]
                simp
        · split at h
          · next hc =>
            have hcc := cons_toNat hc
            split at h
            · cases h
            · next d' =>
              split at h
              · cases h
              · next u r1 e1 =>
                split at h
                · cases h
                · next hlen =>
                  split at h
                  · cases h
                  · next l r2 e2 =>
                    obtain ⟨rfl, rfl⟩ := Prod.mk.inj (Option.some.inj h)
                    obtain ⟨hu, rfl⟩ := (rdNum0_iff _ _ _).1 e1
                    obtain ⟨g1, rfl, rfl⟩ := (rdMany_iff d' _ (ih d' rfl) _ _ _ _).1 e2
                    refine ⟨(good_list d' l hu).2 g1, ?_⟩
                    rw [enc, if_neg (by decide), if_neg (by decide), hcc]
                    simp
          · cases h
  · rintro ⟨⟨h1, h2, h3⟩, rfl⟩
    cases v with
    | mk k n s l =>
      rw [Fits] at h3
      rcases formed_kind h1 with rfl | rfl | rfl
      · obtain ⟨rfl, rfl⟩ := (formed_int _ _ _).1 h1
        rw [enc, if_pos rfl, rdV.eq_def]
        dsimp only [List.cons_append]
        rw [if_pos (by decide), (rdNum0_iff _ _ _).2 ⟨(uns_fit n).2 h3.1, rfl⟩]
        dsimp only
        rw [sgn_uns]
      · obtain ⟨rfl, rfl⟩ := (formed_text _ _ _).1 h1
        rw [enc, if_neg (by decide), if_pos rfl, rdV.eq_def]
        dsimp only [List.cons_append]
        have hl : s.data.toList.length = s.size := rfl
        rw [if_neg (by decide), if_pos (by decide), (rdNum0_iff _ s.size (s.data.toList ++ r)).2 ⟨h3.2.1, by rw [List.append_assoc]⟩]
        dsimp only
        rw [if_neg (by rw [List.length_append]; omega), List.take_left' hl, List.drop_left' hl, arr_toList]
      · obtain ⟨rfl, rfl, hl⟩ := (formed_list _ _ _).1 h1
        rw [depth, if_pos rfl] at h2
        cases d with
        | zero => omega
        | succ d =>
          have hg : Good (d + 1) (.mk 3 0 ⟨#[]⟩ l) := ⟨h1, by rw [depth, if_pos rfl]; exact h2, by rw [Fits]; exact h3⟩
          have hg2 := (good_list d l h3.2.2.1).1 hg
          rw [enc, if_neg (by decide), if_neg (by decide), rdV.eq_def]
          dsimp only [List.cons_append]
          rw [if_neg (by decide), if_neg (by decide), if_pos (by decide), (rdNum0_iff _ l.length (encL l ++ r)).2 ⟨h3.2.2.1, by rw [List.append_assoc]⟩]
          dsimp only
          have := encL_len l
          rw [if_neg (by rw [List.length_append]; omega), (rdMany_iff d _ (ih d rfl) _ _ l r).2 ⟨hg2, rfl, rfl⟩]
theorem rdV_iff : ∀ (d : Nat) (bs : List UInt8) (v : V) (r : List UInt8), rdV d bs = some (v, r) ↔ Good d v ∧ bs = enc v ++ r := by
  intro d
  induction d with
  | zero =>
    intro bs v r
    exact rdV_key 0 (fun _ h => absurd h (by omega)) bs v r
  | succ d ih =>
    refine rdV_key (d + 1) fun d' h => ?_
    obtain rfl : d' = d := by omega
    exact ih
theorem enc_inj {d : Nat} {v w : V} {r r' : List UInt8} (h1 : Good d v) (h2 : Good d w) (h : enc v ++ r = enc w ++ r') : v = w ∧ r = r' := by
  have e1 := (rdV_iff d (enc v ++ r) v r).2 ⟨h1, rfl⟩
  have e2 := (rdV_iff d (enc v ++ r) w r').2 ⟨h2, h⟩
  rw [e1] at e2
  exact Prod.mk.inj (Option.some.inj e2)
end Go.Proofs.Ytopkpdaingmmeaa
