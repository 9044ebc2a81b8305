/- A remark before a token. -/
import Derived.Test.YtlcmedimgoaneaaGreatDoorKAll
namespace Go.Proofs.YtlcmedimgoaneaaGreatDoor

/-- The kinds and texts depend on the bytes alone. -/
theorem lex_kt : ∀ (f : Nat) (r : Bs) (p q : Nat) (e e' : Int) (m m' : Nat), (lex f r p e m).1.map kt = (lex f r q e' m').1.map kt
  | 0, _, _, _, _, _, _, _ => rfl
  | f + 1, r, p, q, e, e', m, m' => by
    rw [lex_S, lex_S]
    simp only [lexS]
    by_cases h1 : skp false r = []
    · rw [if_pos h1, if_pos h1]; rfl
    rw [if_neg h1, if_neg h1]
    by_cases h2 : (tok (skp false r)).1 = 0
    · rw [if_pos h2, if_pos h2]
      split <;> split <;> exact lex_kt f _ _ _ _ _ _ _
    · rw [if_neg h2, if_neg h2, List.map_cons, List.map_cons]
      exact congrArg (List.cons _) (lex_kt f _ _ _ _ _ _ _)
theorem lex_fuel : ∀ (f g : Nat) (r : Bs) (p : Nat) (e : Int) (m : Nat), r.length < f → r.length < g → (lex f r p e m).1.map kt = (lex g r p e m).1.map kt
  | 0, _, _, _, _, _, h, _ => by omega
  | _ + 1, 0, _, _, _, _, _, h => by omega
  | f + 1, g + 1, r, p, e, m, hf, hg => by
    rw [lex_S, lex_S]
    simp only [lexS]
    by_cases h1 : skp false r = []
    · rw [if_pos h1, if_pos h1]
    rw [if_neg h1, if_neg h1]
    have hl := skp_len false r
    have ht := tok_le h1
    have hd : ((skp false r).drop (tok (skp false r)).2.2).length < f ∧ ((skp false r).drop (tok (skp false r)).2.2).length < g := by
      rw [List.length_drop]; omega
    by_cases h2 : (tok (skp false r)).1 = 0
    · rw [if_pos h2, if_pos h2]
      split <;> exact lex_fuel f g _ _ _ _ hd.1 hd.2
    · rw [if_neg h2, if_neg h2, List.map_cons, List.map_cons]
      exact congrArg (List.cons _) (lex_fuel f g _ _ _ _ hd.1 hd.2)
def ks (r : Bs) : List (Int × Bs) := (lex (r.length + 1) r 0 0 0).1.map kt
theorem ks_of (f : Nat) (r : Bs) (p : Nat) (e : Int) (m : Nat) (h : r.length < f) : (lex f r p e m).1.map kt = ks r :=
  (lex_fuel f (r.length + 1) r p e m h (Nat.lt_succ_self _)).trans (lex_kt _ _ _ _ _ _ _ _)
theorem ks_eq (r : Bs) : ks r = if skp false r = [] then [(6, [])] else if (tok (skp false r)).1 = 0 then ks ((skp false r).drop (tok (skp false r)).2.2)
    else ((tok (skp false r)).1, (tok (skp false r)).2.1) :: ks ((skp false r).drop (tok (skp false r)).2.2) := by
  show (lex (r.length + 1) r 0 0 0).1.map kt = _
  rw [lex_S]
  simp only [lexS]
  by_cases h1 : skp false r = []
  · rw [if_pos h1, if_pos h1]; rfl
  rw [if_neg h1, if_neg h1]
  have hl := skp_len false r
  have ht := tok_le h1
  have hd : ((skp false r).drop (tok (skp false r)).2.2).length < r.length := by rw [List.length_drop]; omega
  by_cases h2 : (tok (skp false r)).1 = 0
  · rw [if_pos h2, if_pos h2]
    split <;> exact ks_of _ _ _ _ _ hd
  · rw [if_neg h2, if_neg h2, List.map_cons]
    exact congrArg (List.cons _) (ks_of _ _ _ _ _ hd)
theorem tokens_ks (r : Bs) : (tokens r).1.map kt = ks r := ks_of _ _ _ _ _ (Nat.lt_succ_self _)

theorem skp_self : ∀ (cm : Bool) (b : Bs), skp cm b = b → skp false b = b
  | _, [], _ => rfl
  | cm, y :: b, h => by
    have hl : ∀ cm, skp cm b ≠ y :: b := fun cm h => by
      have := skp_len cm b
      rw [h, List.length_cons] at this; omega
    rw [skp] at h
    by_cases h1 : y = 10
    · rw [if_pos h1] at h; exact absurd h (hl _)
    rw [if_neg h1] at h
    by_cases h2 : cm = true ∨ isS y = true
    · rw [if_pos h2] at h; exact absurd h (hl _)
    rw [if_neg h2] at h
    by_cases h3 : y = 35
    · rw [if_pos h3] at h; exact absurd h (hl _)
    rw [skp, if_neg h1, if_neg (fun h => h2 (h.imp (fun h => absurd h (by decide)) id)), if_neg h3]
theorem skp_rem : ∀ (rem b : Bs), (∀ z ∈ rem, z ≠ 34 ∧ z ≠ 10) → skp true (rem ++ 10 :: b) = skp false b
  | [], b, _ => by rw [List.nil_append, skp, if_pos rfl]
  | z :: rem, b, h => by
    rw [List.cons_append, skp, if_neg (h z (by simp)).2, if_pos (Or.inl rfl)]
    exact skp_rem rem b (fun y hy => h y (by simp [hy]))
/-- A remark without quotes. -/
def remk (rem b : Bs) : Bs := 35 :: (rem ++ 10 :: b)
theorem skp_remk (cm : Bool) (rem b : Bs) (h : ∀ z ∈ rem, z ≠ 34 ∧ z ≠ 10) : skp cm (remk rem b) = skp false b := by
  unfold remk
  rw [skp, if_neg (by decide)]
  cases cm with
  | true => rw [if_pos (Or.inl rfl)]; exact skp_rem rem b h
  | false => rw [if_neg (by decide), if_pos rfl]; exact skp_rem rem b h
theorem skp_to : ∀ (a b c : Bs) (cm : Bool) (a2 : Bs), skp cm (a ++ b) = a2 ++ b → a2 ≠ [] → skp cm (a ++ c) = a2 ++ c
  | [], b, c, cm, a2, h, hne => by
    have := skp_len cm b
    rw [List.nil_append] at h
    rw [h, List.length_append] at this
    exact absurd (List.eq_nil_of_length_eq_zero (by omega)) hne
  | x :: a, b, c, cm, a2, h, hne => by
    rw [List.cons_append, skp] at h
    rw [List.cons_append, skp]
    by_cases h1 : x = 10
    · rw [if_pos h1] at h ⊢; exact skp_to a b c _ a2 h hne
    rw [if_neg h1] at h ⊢
    by_cases h2 : cm = true ∨ isS x = true
    · rw [if_pos h2] at h ⊢; exact skp_to a b c _ a2 h hne
    rw [if_neg h2] at h ⊢
    by_cases h3 : x = 35
    · rw [if_pos h3] at h ⊢; exact skp_to a b c _ a2 h hne
    rw [if_neg h3] at h ⊢
    rw [← List.cons_append] at h ⊢
    rw [List.append_cancel_right h]
theorem skp_over (rem : Bs) (hr : ∀ z ∈ rem, z ≠ 34 ∧ z ≠ 10) : ∀ (a b : Bs) (cm : Bool), skp cm (a ++ b) = b → skp cm (a ++ remk rem b) = b
  | [], b, cm, h => by
    rw [List.nil_append] at h ⊢
    rw [skp_remk cm rem b hr]
    exact skp_self cm b h
  | x :: a, b, cm, h => by
    rw [List.cons_append, skp] at h
    rw [List.cons_append, skp]
    by_cases h1 : x = 10
    · rw [if_pos h1] at h ⊢; exact skp_over rem hr a b _ h
    rw [if_neg h1] at h ⊢
    by_cases h2 : cm = true ∨ isS x = true
    · rw [if_pos h2] at h ⊢; exact skp_over rem hr a b _ h
    rw [if_neg h2] at h ⊢
    by_cases h3 : x = 35
    · rw [if_pos h3] at h ⊢; exact skp_over rem hr a b _ h
    rw [if_neg h3] at h
    have := congrArg List.length h
    rw [List.length_cons, List.length_append] at this
    omega

theorem body_rem : ∀ (n : Nat) (p b : Bs), p.length ≤ n → (∀ z ∈ p, z ≠ 34 ∧ z ≠ 10) → (body (p ++ 10 :: b)).2.head? ≠ some 34
  | _, [], b, _, _ => by
    rw [List.nil_append, body_stop]
    · simp
    · rw [chr_plain b (by decide)]; rfl
  | 0, x :: p, b, hn, _ => by simp at hn
  | n + 1, x :: p, b, hn, h => by
    have hx := h x (by simp)
    rw [List.cons_append]
    by_cases h92 : x = 92
    · subst h92
      cases p with
      | nil =>
        rw [List.nil_append, body_stop]
        · simp
        · rw [chr_bs]; rfl
      | cons y p =>
        rw [List.cons_append]
        cases he : esc y with
        | none =>
          rw [body_stop]
          · simp
          · rw [chr_bs, List.headD_cons, he]
        | some v =>
          have hch : chr (92 :: y :: (p ++ 10 :: b)) = (v, 2) := by rw [chr_bs, List.headD_cons, he]
          rw [body_go (by rw [hch]; simp), hch]
          exact body_rem n p b (by simp at hn; omega) (fun z hz => h z (by simp [hz]))
    · by_cases hp : plain x = true
      · have hch : chr (x :: (p ++ 10 :: b)) = (x, 1) := by rw [chr_plain _ h92, if_pos hp]
        rw [body_go (by rw [hch]; simp), hch]
        exact body_rem n p b (by simp at hn; omega) (fun z hz => h z (by simp [hz]))
      · rw [body_stop (by rw [chr_plain _ h92, if_neg hp]), List.head?_cons]
        intro hh
        exact hx.1 (by simpa using hh)
theorem body_fail (rem : Bs) (hr : ∀ z ∈ rem, z ≠ 34 ∧ z ≠ 10) (b : Bs) : ∀ (n : Nat) (a : Bs), a.length ≤ n → (body (a ++ b)).2.head? ≠ some 34 → (body (a ++ remk rem b)).2.head? ≠ some 34
  | _, [], _, _ => by
    rw [List.nil_append]
    exact body_rem _ (35 :: rem) b (Nat.le_refl _) (by
      intro z hz
      rcases List.mem_cons.1 hz with rfl | hz
      · decide
      · exact hr z hz)
  | 0, x :: a, hn, _ => by simp at hn
  | n + 1, x :: a, hn, h => by
    rw [List.cons_append] at h ⊢
    by_cases h92 : x = 92
    · subst h92
      cases a with
      | nil =>
        rw [List.nil_append, body_stop]
        · simp
        · rw [chr_bs]; rfl
      | cons y a =>
        rw [List.cons_append] at h ⊢
        cases he : esc y with
        | none =>
          rw [body_stop]
          · simp
          · rw [chr_bs, List.headD_cons, he]
        | some v =>
          have hb : ∀ z, body (92 :: y :: z) = (v :: (body z).1, (body z).2) := fun z => by
            have hch : chr (92 :: y :: z) = (v, 2) := by rw [chr_bs, List.headD_cons, he]
            rw [body_go (by rw [hch]; simp), hch]; rfl
          rw [hb] at h ⊢
          exact body_fail rem hr b n a (by simp at hn; omega) h
    · by_cases hp : plain x = true
      · have hb : ∀ z, body (x :: z) = (x :: (body z).1, (body z).2) := fun z => by
          have hch : chr (x :: z) = (x, 1) := by rw [chr_plain z h92, if_pos hp]
          rw [body_go (by rw [hch]; simp), hch]; rfl
        rw [hb] at h ⊢
        exact body_fail rem hr b n a (by simp at hn; omega) h
      · have hb : ∀ z, body (x :: z) = ([], x :: z) := fun z => body_stop (by rw [chr_plain _ h92, if_neg hp])
        rw [hb] at h ⊢
        exact h
theorem qt_none {r : Bs} : qt r = none ↔ (body r.tail).2.head? ≠ some 34 := by
  unfold qt
  split
  · rename_i h; simp [h]
  · rename_i h; simp [h]
/-- A remark before a token changes nothing. -/
theorem ks_rem (src : Bs) (at' : Nat) (hat : at' ≤ src.length) (rem : Bs) (hr : ∀ z ∈ rem, z ≠ 34 ∧ z ≠ 10) : ∀ (n f p : Nat) (e : Int) (m : Nat), at' - p ≤ n → p ≤ at' → src.length - p < f →
    (∃ x ∈ (lex f (src.drop p) p e m).1, x.a = at') → ks ((src.drop p).take (at' - p) ++ remk rem (src.drop at')) = ks (src.drop p)
  | n, 0, p, e, m, hn, hp, hf, h => by omega
  | n, f + 1, p, e, m, hn, hp, hf, h => by
    have hb : src.drop p = (src.drop p).take (at' - p) ++ src.drop at' := by
      have := (List.take_append_drop (at' - p) (src.drop p)).symm
      rw [List.drop_drop, show p + (at' - p) = at' by omega] at this
      exact this
    have hs := skq_le src p (by omega)
    have hd := skq_drop src p (by omega)
    rw [lex_at f src p (by omega)] at h
    have hall := lexS_all src f (fun p e m hp hf => lex_all src f p e m hp hf) (skq src p) e m hs.2 (by omega)
    obtain ⟨x, hx, hxa⟩ := h
    have hge := hall.ge x hx
    -- what is left behind what is skipped
    have hb2 : src.drop (skq src p) = (src.drop (skq src p)).take (at' - skq src p) ++ src.drop at' := by
      have := (List.take_append_drop (at' - skq src p) (src.drop (skq src p))).symm
      rw [List.drop_drop, show skq src p + (at' - skq src p) = at' by omega] at this
      exact this
    by_cases h0 : skq src p = at'
    · have : skp false ((src.drop p).take (at' - p) ++ remk rem (src.drop at')) = src.drop at' := by
        refine skp_over rem hr _ _ _ ?_
        rw [← hb, hd, h0]
      rw [ks_eq ((src.drop p).take (at' - p) ++ _), ks_eq (src.drop p), this, hd, h0]
    · have hlt : skq src p < at' := by omega
      have hne : (src.drop (skq src p)).take (at' - skq src p) ≠ [] := by
        intro h
        have := congrArg List.length h
        rw [List.length_take, List.length_drop, List.length_nil] at this
        omega
      have hsk : skp false ((src.drop p).take (at' - p) ++ remk rem (src.drop at')) = (src.drop (skq src p)).take (at' - skq src p) ++ remk rem (src.drop at') := by
        refine skp_to _ (src.drop at') _ _ _ ?_ hne
        rw [← hb, hd, ← hb2]
      have hr1 : src.drop (skq src p) ≠ [] := by rw [hb2]; simp [hne]
      have hal : ((src.drop (skq src p)).take (at' - skq src p)).length = at' - skq src p := by rw [List.length_take, List.length_drop]; omega
      -- the token ends before the remark
      have htl := tok_le hr1
      rw [List.length_drop] at htl
      have hdd : (src.drop (skq src p)).drop (tok (src.drop (skq src p))).2.2 = src.drop (skq src p + (tok (src.drop (skq src p))).2.2) := by rw [List.drop_drop]
      have hnext : ∃ e m, ∃ x ∈ (lex f (src.drop (skq src p + (tok (src.drop (skq src p))).2.2)) (skq src p + (tok (src.drop (skq src p))).2.2) e m).1, x.a = at' := by
        simp only [lexS] at hx
        rw [if_neg hr1, hdd] at hx
        split at hx
        · split at hx
          · exact ⟨_, _, x, hx, hxa⟩
          · exact ⟨_, _, x, hx, hxa⟩
        · rcases List.mem_cons.1 hx with rfl | hx
          · simp only at hxa; omega
          · exact ⟨_, _, x, hx, hxa⟩
      obtain ⟨e2, m2, hnx⟩ := hnext
      have hn2 : skq src p + (tok (src.drop (skq src p))).2.2 ≤ at' := by
        obtain ⟨y, hy, hya⟩ := hnx
        have := (lex_all src f (skq src p + (tok (src.drop (skq src p))).2.2) e2 m2 (by omega) (by omega)).ge y hy
        omega
      have htok : tok ((src.drop (skq src p)).take (at' - skq src p) ++ remk rem (src.drop at')) = tok (src.drop (skq src p)) := by
        obtain ⟨y, q, hyq⟩ := List.exists_cons_of_ne_nil hne
        have := tok_swap y q (src.drop at') (remk rem (src.drop at')) (Or.inr rfl) (by
          rw [← hyq, ← hb2, hal]; omega) (by
          intro hy hq
          rw [List.cons_append, qt_none, List.tail_cons] at hq ⊢
          exact body_fail rem hr _ _ q (Nat.le_refl _) hq)
        rw [← hyq, ← hb2] at this
        exact this
      have hih := ks_rem src at' hat rem hr (n - 1) f (skq src p + (tok (src.drop (skq src p))).2.2) e2 m2 (by omega) hn2 (by omega) hnx
      have hdrop : ((src.drop (skq src p)).take (at' - skq src p) ++ remk rem (src.drop at')).drop (tok (src.drop (skq src p))).2.2 = (src.drop (skq src p + (tok (src.drop (skq src p))).2.2)).take (at' - (skq src p + (tok (src.drop (skq src p))).2.2)) ++ remk rem (src.drop at') := by
        rw [List.drop_append_of_le_length (by rw [hal]; omega), List.drop_take, hdd]
        congr 2
        omega
      rw [ks_eq ((src.drop p).take (at' - p) ++ _), ks_eq (src.drop p), hsk, hd, htok, hdrop, hdd, hih]
      have hne2 : (src.drop (skq src p)).take (at' - skq src p) ++ remk rem (src.drop at') ≠ [] := by simp [hne]
      rw [if_neg hne2, if_neg hr1]
theorem tokens_rem (src : Bs) (x : Tk) (hx : x ∈ (tokens src).1) (rem : Bs) (hr : ∀ z ∈ rem, z ≠ 34 ∧ z ≠ 10) :
    (tokens (src.take x.a ++ remk rem (src.drop x.a))).1.map kt = (tokens src).1.map kt := by
  have hall := tokens_all src
  have hle : x.a ≤ src.length := by
    obtain ⟨L0, h1, h2, _⟩ := hall.ex
    rw [h1] at hx
    rcases List.mem_append.1 hx with h | h
    · exact Nat.le_of_lt (h2 x h).lt
    · rw [List.mem_singleton.1 h]; exact Nat.le_refl _
  have := ks_rem src x.a hle rem hr (x.a - 0) (src.length + 1) 0 (-1) 0 (Nat.le_refl _) (Nat.zero_le _) (by omega) ⟨x, by rw [List.drop_zero]; exact hx, rfl⟩
  rw [List.drop_zero, Nat.sub_zero] at this
  rw [tokens_ks, tokens_ks, this]
/-- The tokens of any text can be joined, and are the tokens of what they are joined to. -/
theorem tokens_again (src : Bs) : ∃ L0, (tokens src).1 = L0 ++ [⟨6, [], src.length⟩] ∧ okI (L0.map Tk.tok) = true ∧ (jt (L0.map Tk.tok)).length ≤ 3 * src.length ∧
    L0.length ≤ src.length ∧ (tokens (jt (L0.map Tk.tok))).2 = [] ∧ (tokens (jt (L0.map Tk.tok))).1.map kt = (tokens src).1.map kt := by
  obtain ⟨L0, h1, h2, h3, h4⟩ := (tokens_all src).ex
  have hok : okI (L0.map Tk.tok) = true := by
    unfold okI
    rw [List.all_map, List.all_eq_true]
    exact fun x hx => (h2 x hx).ok
  obtain ⟨k1, k2⟩ := tokens_join _ hok
  refine ⟨L0, h1, hok, by simpa using h3, by simpa using h4, k1, ?_⟩
  rw [k2, h1, List.map_map, List.map_append]
  rfl
theorem txB_congr {x y : Tok} (h : ktT x = ktT y) : txB x = txB y ∧ okT x.k x.t = okT y.k y.t := by
  unfold ktT at h
  simp only [Prod.mk.injEq] at h
  unfold txB
  rw [h.1, h.2]
  exact ⟨rfl, rfl⟩
theorem jt_congr : ∀ l l' : List Tok, l.map ktT = l'.map ktT → jt l = jt l' ∧ okI l = okI l'
  | [], [], _ => ⟨rfl, rfl⟩
  | [], _ :: _, h => by simp at h
  | _ :: _, [], h => by simp at h
  | [x], [y], h => by
    simp only [List.map_cons, List.map_nil, List.cons.injEq, and_true] at h
    obtain ⟨h1, h2⟩ := txB_congr h
    refine ⟨h1, ?_⟩
    unfold okI
    simp only [List.all_cons, List.all_nil, h2]
  | [_], _ :: _ :: _, h => by simp at h
  | _ :: _ :: _, [_], h => by simp at h
  | x :: y :: r, x' :: y' :: r', h => by
    have h : ktT x = ktT x' ∧ (y :: r).map ktT = (y' :: r').map ktT := by simpa using h
    obtain ⟨h1, h2⟩ := txB_congr h.1
    obtain ⟨i1, i2⟩ := jt_congr (y :: r) (y' :: r') h.2
    refine ⟨by rw [jt_cons, jt_cons, h1, i1], ?_⟩
    unfold okI at i2 ⊢
    rw [List.all_cons, List.all_cons (a := x'), h2, i2]
/-- Joining again what was split. -/
theorem tokens_back (l : List Tok) (h : okI l = true) : ∃ M0, (tokens (jt l)).1 = M0 ++ [⟨6, [], (jt l).length⟩] ∧ okI (M0.map Tk.tok) = true ∧ jt (M0.map Tk.tok) = jt l ∧ M0.length ≤ (jt l).length ∧ (tokens (jt l)).2 = [] ∧
    (tokens (jt l)).1.map kt = l.map ktT ++ [(6, [])] := by
  obtain ⟨h1, h2⟩ := tokens_join l h
  obtain ⟨M0, e1, e2, _, e4⟩ := (tokens_all (jt l)).ex
  have hm : (M0.map Tk.tok).map ktT = l.map ktT := by
    rw [e1, List.map_append] at h2
    have := (List.append_inj' h2 rfl).1
    rw [List.map_map]
    exact this
  obtain ⟨i1, i2⟩ := jt_congr _ _ hm
  exact ⟨M0, e1, by rw [i2, h], i1, by simpa using e4, h1, h2⟩
theorem map_ktT (L : List Tk) : (L.map Tk.tok).map ktT = L.map kt := by
  rw [List.map_map]; rfl
end Go.Proofs.YtlcmedimgoaneaaGreatDoor
