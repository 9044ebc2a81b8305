/- What the specification's blank, Quoted and token do, byte by byte. -/
import Derived.Test.YtlcmedimgoaneaaGreatDoorKTok
import Derived.Test.YtlcmedimgoaneaaGreatDoorKRefK
namespace Go.Proofs.YtlcmedimgoaneaaGreatDoor

theorem drop_cons {l : Bs} {p : Nat} (h : p < l.length) : l.drop p = l[p] :: l.drop (p + 1) := (List.getElem_cons_drop h).symm

/- blank -/
theorem skp_go {l : Bs} {p : Nat} (h : p < l.length) (hs : l[p] = 32 ∨ l[p] = 9 ∨ l[p] = 10 ∨ l[p] = 13) : skp false (l.drop (p + 1)) = skp false (l.drop p) := by
  rw [drop_cons h, skp]
  rcases hs with e | e | e | e <;> rw [e] <;> simp [isS]
theorem skp_stop {l : Bs} {p : Nat} (h : p < l.length) (h1 : l[p] ≠ 32) (h2 : l[p] ≠ 9) (h3 : l[p] ≠ 10) (h4 : l[p] ≠ 13) (h5 : l[p] ≠ 35) : skp false (l.drop p) = l.drop p := by
  rw [drop_cons h, skp, if_neg h3, if_neg (by simp [isS, h1, h2, h3, h4]), if_neg h5]
theorem skp_end (c : Bool) (l : Bs) : skp c (l.drop l.length) = [] := by
  rw [List.drop_length]; rfl
theorem skp_hash {l : Bs} {p : Nat} (h : p < l.length) (h5 : l[p] = 35) : skp true (l.drop p) = skp false (l.drop p) := by
  rw [drop_cons h, skp, skp, h5]
  simp [isS]
theorem skp_in {l : Bs} {p : Nat} (h : p < l.length) (h3 : l[p] ≠ 10) : skp true (l.drop (p + 1)) = skp true (l.drop p) := by
  rw [drop_cons h, skp, if_neg h3, if_pos (Or.inl rfl)]
theorem skp_out {l : Bs} {p : Nat} (h : p < l.length) (h3 : l[p] = 10) : skp false (l.drop p) = skp true (l.drop p) := by
  rw [drop_cons h, skp, skp, if_pos h3, if_pos h3]
theorem skq_at {l : Bs} {q p : Nat} (hp : p ≤ l.length) (h : skp false (l.drop q) = l.drop p) : skq l q = p := by
  unfold skq
  rw [h, List.length_drop]
  omega

/- Quoted -/
theorem chrR_q {l : Bs} {i : Nat} (h : i < l.length) (h1 : l[i] = 34) : body (l.drop i) = ([], l.drop i) := by
  apply body_stop
  rw [drop_cons h, h1]
  rfl
theorem chrR_bad {l : Bs} {i : Nat} (h : i < l.length) (h1 : l[i].toNat < 32 ∨ 126 < l[i].toNat) : body (l.drop i) = ([], l.drop i) := by
  apply body_stop
  rw [drop_cons h]
  have h92 : l[i] ≠ 92 := by intro e; rw [e] at h1; revert h1; decide
  have hp : plain l[i] = false := by
    unfold plain
    rcases h1 with h1 | h1
    · rw [decide_eq_false (by omega)]; rfl
    · rw [decide_eq_false (p := l[i].toNat ≤ 126) (by omega)]; simp
  simp [chr, h92, hp]
theorem chrR_plain {l : Bs} {i : Nat} (h : i < l.length) (h34 : l[i] ≠ 34) (h92 : l[i] ≠ 92) (h1 : 32 ≤ l[i].toNat) (h2 : l[i].toNat ≤ 126) :
    body (l.drop i) = (l[i] :: (body (l.drop (i + 1))).1, (body (l.drop (i + 1))).2) := by
  have hp : plain l[i] = true := by
    unfold plain
    rw [decide_eq_true h1, decide_eq_true h2]
    simp [h34, h92]
  have hc : chr (l.drop i) = (l[i], 1) := by
    rw [drop_cons h]
    simp [chr, h92, hp]
  rw [body_go (by rw [hc]; simp), hc, List.drop_drop]
theorem chrR_esc {l : Bs} {i : Nat} (h : i + 1 < l.length) (h92 : l[i] = 92) {y : UInt8} (hy : esc l[i + 1] = some y) :
    body (l.drop i) = (y :: (body (l.drop (i + 2))).1, (body (l.drop (i + 2))).2) := by
  have hc : chr (l.drop i) = (y, 2) := by
    rw [drop_cons (by omega : i < l.length), drop_cons h, h92]
    simp only [chr, if_true, List.headD_cons, hy]
  rw [body_go (by rw [hc]; simp), hc, List.drop_drop]
theorem chrR_last {l : Bs} {i : Nat} (h : i < l.length) (h2 : i + 1 = l.length) (h92 : l[i] = 92) : body (l.drop i) = ([], l.drop i) := by
  apply body_stop
  rw [drop_cons h, h2, List.drop_length, h92]
  rfl
theorem chrR_none {l : Bs} {i : Nat} (h : i + 1 < l.length) (h92 : l[i] = 92) (hy : esc l[i + 1] = none) : body (l.drop i) = ([], l.drop i) := by
  apply body_stop
  rw [drop_cons (by omega : i < l.length), drop_cons h, h92]
  simp only [chr, if_true, List.headD_cons, hy]
/-- acc is what the bytes up to i stand for. -/
def QAt (l : Bs) (i : Nat) (acc : Bs) : Prop := body l.tail = (acc ++ (body (l.drop i)).1, (body (l.drop i)).2)
theorem QAt.start (l : Bs) : QAt l 1 [] := by
  unfold QAt
  rw [List.drop_one, List.nil_append]
theorem QAt.plain {l : Bs} {i : Nat} {acc : Bs} (q : QAt l i acc) (h : i < l.length) (h34 : l[i] ≠ 34) (h92 : l[i] ≠ 92) (h1 : 32 ≤ l[i].toNat) (h2 : l[i].toNat ≤ 126) : QAt l (i + 1) (acc ++ [l[i]]) := by
  unfold QAt at q ⊢
  rw [q, chrR_plain h h34 h92 h1 h2]
  simp
theorem QAt.esc {l : Bs} {i : Nat} {acc : Bs} (q : QAt l i acc) (h : i + 1 < l.length) (h92 : l[i] = 92) {y : UInt8} (hy : Go.Proofs.YtlcmedimgoaneaaGreatDoor.esc l[i + 1] = some y) : QAt l (i + 2) (acc ++ [y]) := by
  unfold QAt at q ⊢
  rw [q, chrR_esc h h92 hy]
  simp
theorem QAt.yes {l : Bs} {i : Nat} {acc : Bs} (q : QAt l i acc) (h : i < l.length) (h1 : l[i] = 34) : qt l = some (acc, i + 1) := by
  unfold QAt at q
  rw [chrR_q h h1, List.append_nil] at q
  unfold qt
  rw [q]
  rw [if_pos (by show (l.drop i).head? = some 34; rw [drop_cons h, h1]; rfl)]
  show some (acc, l.length - (l.drop i).length + 1) = _
  rw [List.length_drop]
  congr 2
  omega
theorem QAt.no {l : Bs} {i : Nat} {acc : Bs} (q : QAt l i acc) (h : i < l.length) (h1 : l[i] ≠ 34) (hs : body (l.drop i) = ([], l.drop i)) : qt l = none := by
  unfold QAt at q
  rw [hs] at q
  unfold qt
  rw [q, if_neg]
  show ¬ (l.drop i).head? = some 34
  rw [drop_cons h]
  intro e
  exact h1 (Option.some.inj e)
theorem QAt.end_ {l : Bs} {acc : Bs} (q : QAt l l.length acc) : qt l = none := by
  unfold QAt at q
  rw [List.drop_length, body_stop (r := []) rfl] at q
  unfold qt
  rw [q]
  rfl

/- token -/
theorem wd_go {l : Bs} {n : Nat} (h : n < l.length) (hw : isW l[n] = true) : wdLen (l.drop n) = wdLen (l.drop (n + 1)) + 1 := by
  rw [drop_cons h, wdLen, if_pos hw]
theorem wd_stop {l : Bs} {n : Nat} (h : n < l.length) (hw : isW l[n] = false) : wdLen (l.drop n) = 0 := by
  rw [drop_cons h, wdLen, if_neg (by rw [hw]; decide)]
theorem wd_end (l : Bs) : wdLen (l.drop l.length) = 0 := by rw [List.drop_length]; rfl
theorem nm_go {l : Bs} {n : Nat} (h : n < l.length) (hw : isW l[n] = true ∨ ((l[n] = 58 ∨ l[n] = 46) ∧ ∃ h2 : n + 1 < l.length, isD l[n + 1] = true)) : numLen (l.drop n) = numLen (l.drop (n + 1)) + 1 := by
  rw [drop_cons h, numLen, if_pos]
  rcases hw with hw | ⟨hw, h2, h3⟩
  · exact Or.inl hw
  · refine Or.inr ⟨hw, ?_⟩
    rw [drop_cons h2]; exact h3
theorem isD_0 : isD 0 = false := by decide
theorem nm_stop {l : Bs} {n : Nat} (h : n < l.length) (hw : isW l[n] = false) (h1 : (l[n] = 58 ∨ l[n] = 46) → ∀ h2 : n + 1 < l.length, isD l[n + 1] = false) : numLen (l.drop n) = 0 := by
  rw [drop_cons h, numLen, if_neg]
  rintro (h3 | ⟨h3, h4⟩)
  · rw [hw] at h3; cases h3
  · by_cases h2 : n + 1 < l.length
    · rw [drop_cons h2, List.headD_cons, h1 h3 h2] at h4; cases h4
    · rw [List.drop_of_length_le (by omega), List.headD_nil, isD_0] at h4; cases h4
theorem nm_end (l : Bs) : numLen (l.drop l.length) = 0 := by rw [List.drop_length]; rfl

theorem tok_word {l : Bs} {p : Nat} (h : p < l.length) (h1 : isL l[p] = true) : tok (l.drop p) = (1, (l.drop p).take (wdLen (l.drop (p + 1)) + 1), wdLen (l.drop (p + 1)) + 1) := by
  conv => lhs; rw [drop_cons h]
  rw [tok_cons, if_pos h1, ← drop_cons h]
theorem tok_num {l : Bs} {p : Nat} (h : p < l.length) (h1 : isL l[p] = false) (h2 : isD l[p] = true ∨ (l[p] = 45 ∧ ∃ h2 : p + 1 < l.length, isD l[p + 1] = true)) {t : Bs} (ht : (l.drop p).take (numLen (l.drop (p + 1)) + 1) = t) :
    tok (l.drop p) = (if int t = true then 2 else if (timeV t).isSome = true then 3 else 0, t, numLen (l.drop (p + 1)) + 1) := by
  conv => lhs; rw [drop_cons h]
  rw [tok_cons, if_neg (by rw [h1]; decide), if_pos, ← drop_cons h, ht]
  rcases h2 with h2 | ⟨h2, h3, h4⟩
  · exact Or.inl h2
  · refine Or.inr ⟨h2, ?_⟩
    rw [drop_cons h3]; exact h4
/-- The byte begins no number. -/
def NoNum (l : Bs) (p : Nat) : Prop := ∃ h : p < l.length, isL l[p] = false ∧ isD l[p] = false ∧ (l[p] = 45 → ∀ h2 : p + 1 < l.length, isD l[p + 1] = false)
theorem NoNum.neg {l : Bs} {p : Nat} (n : NoNum l p) : ¬ (isD (l[p]'n.1) = true ∨ (l[p]'n.1) = 45 ∧ isD ((l.drop (p + 1)).headD 0) = true) := by
  obtain ⟨h, h1, h2, h3⟩ := n
  rintro (h4 | ⟨h4, h5⟩)
  · rw [h2] at h4; cases h4
  · by_cases h6 : p + 1 < l.length
    · rw [drop_cons h6, List.headD_cons, h3 h4 h6] at h5; cases h5
    · rw [List.drop_of_length_le (by omega), List.headD_nil, isD_0] at h5; cases h5
theorem tok_text {l : Bs} {p : Nat} (n : NoNum l p) {s : Bs} {k : Nat} (hq : qt (l.drop p) = some (s, k)) (h34 : l[p]'n.1 = 34) : tok (l.drop p) = (4, s, k) := by
  have hn := n.neg
  obtain ⟨h, h1, h2, h3⟩ := n
  have hq' := hq
  rw [drop_cons h] at hq' ⊢
  rw [tok_cons, if_neg (by rw [h1]; decide), if_neg hn, if_pos h34, hq']
theorem sgn_34 (t : Bs) : sgn (34 :: t) = [] := by
  have := sgn_pre (34 :: t)
  unfold sgn at this ⊢
  cases t <;> simp [signs, List.find?, List.isPrefixOf]
theorem tok_sign {l : Bs} {p : Nat} (n : NoNum l p) (hq : l[p]'n.1 = 34 → qt (l.drop p) = none) :
    (sgn (l.drop p) ≠ [] → tok (l.drop p) = (5, sgn (l.drop p), (sgn (l.drop p)).length)) ∧ (sgn (l.drop p) = [] → ∃ t, tok (l.drop p) = (0, t, 1)) := by
  have hn := n.neg
  obtain ⟨h, h1, h2, h3⟩ := n
  by_cases h34 : l[p] = 34
  · have hq := hq h34
    have hs : sgn (l.drop p) = [] := by rw [drop_cons h, h34]; exact sgn_34 _
    refine ⟨fun h => absurd hs h, fun _ => ⟨[34], ?_⟩⟩
    rw [drop_cons h] at hq ⊢
    rw [tok_cons, if_neg (by rw [h1]; decide), if_neg hn, if_pos h34, hq]
  · rw [drop_cons h]
    rw [tok_cons, if_neg (by rw [h1]; decide), if_neg hn, if_neg h34]
    exact ⟨fun hs => by rw [if_pos hs], fun hs => ⟨_, by rw [if_neg (by simpa using hs)]⟩⟩
theorem sgn_one : ∀ c : UInt8, sgn [c] = if signs.contains [c] = true then [c] else [] := by
  intro c
  exact all_bytes (p := fun c => sgn [c] = if signs.contains [c] = true then [c] else []) (by decide +kernel) c
theorem no_beq {x y : UInt8} (h : x ≠ y) : (x == y) = false ∧ (y == x) = false := ⟨by simpa using h, by simpa using fun e : y = x => h e.symm⟩
theorem sgn_two (c x : UInt8) (t : Bs) : sgn (c :: x :: t) = if signs.contains [c, x] = true then [c, x] else if signs.contains [c] = true then [c] else [] := by
  by_cases h1 : c = 46
  · subst h1
    by_cases hx : x = 46
    · subst hx; simp [sgn, signs, List.isPrefixOf]
    · obtain ⟨e1, e2⟩ := no_beq hx
      simp [sgn, signs, List.find?, List.isPrefixOf, List.contains, List.elem, e1, e2]
  by_cases h2 : c = 60
  · subst h2
    by_cases hx : x = 61
    · subst hx; simp [sgn, signs, List.find?, List.isPrefixOf]
    · obtain ⟨e1, e2⟩ := no_beq hx
      simp [sgn, signs, List.find?, List.isPrefixOf, List.contains, List.elem, e1, e2]
  by_cases h3 : c = 62
  · subst h3
    by_cases hx : x = 61
    · subst hx; simp [sgn, signs, List.find?, List.isPrefixOf]
    · obtain ⟨e1, e2⟩ := no_beq hx
      simp [sgn, signs, List.find?, List.isPrefixOf, List.contains, List.elem, e1, e2]
  obtain ⟨e1, f1⟩ := no_beq h1
  obtain ⟨e2, f2⟩ := no_beq h2
  obtain ⟨e3, f3⟩ := no_beq h3
  have hno : signs.contains [c, x] = false := by
    simp [signs, List.contains, List.elem, e1, e2, e3]
  have hk : sgn (c :: x :: t) = sgn [c] := by
    unfold sgn signs
    simp only [List.find?, List.isPrefixOf, f1, f2, f3, Bool.false_and, Bool.and_true]
  rw [hno, if_neg (by decide), hk, sgn_one]
theorem sgn_ref {l : Bs} {p : Nat} (h : p < l.length) : sgn (l.drop p) = if p + 1 < l.length ∧ signs.contains ((l.drop p).take 2) = true then (l.drop p).take 2 else if signs.contains ((l.drop p).take 1) = true then (l.drop p).take 1 else [] := by
  by_cases h2 : p + 1 < l.length
  · rw [drop_cons h, drop_cons h2, sgn_two]
    simp only [List.take_succ_cons, List.take_zero, h2, true_and]
    rfl
  · rw [drop_cons h, List.drop_of_length_le (by omega), sgn_one]
    simp only [h2, false_and, if_false, List.take_succ_cons, List.take_nil]
end Go.Proofs.YtlcmedimgoaneaaGreatDoor
