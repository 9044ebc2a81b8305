/- What holds of all tokens and problems of a text. -/
import Derived.Test.YtlcmedimgoaneaaGreatDoorKValid
namespace Go.Proofs.YtlcmedimgoaneaaGreatDoor

theorem chr_ok {r : Bs} (h : (chr r).2 ≠ 0) : seqB (chr r).1 ≠ [] := by
  cases r with
  | nil => exact absurd rfl h
  | cons c t =>
    by_cases h92 : c = 92
    · subst h92
      rw [chr_bs] at h ⊢
      unfold esc at h ⊢
      by_cases a1 : t.headD 0 = 34
      · rw [if_pos a1]; simp only; decide
      rw [if_neg a1] at h ⊢
      by_cases a2 : t.headD 0 = 92
      · rw [if_pos a2]; simp only; decide
      rw [if_neg a2] at h ⊢
      by_cases a3 : t.headD 0 = 110
      · rw [if_pos a3]; simp only; decide
      rw [if_neg a3] at h
      exact absurd rfl h
    · rw [chr_plain t h92] at h ⊢
      by_cases hp : plain c = true
      · rw [if_pos hp]
        unfold seqB
        simp only
        rw [if_neg h92, if_pos hp]
        split; · simp
        split <;> simp
      · rw [if_neg hp] at h; exact absurd rfl h
theorem body_ok : ∀ (n : Nat) (r : Bs), r.length ≤ n → okQ (body r).1 = true
  | n, r, hn => by
    by_cases h0 : (chr r).2 = 0
    · rw [body_stop h0]; rfl
    · have hc := (chr_le r).1
      cases n with
      | zero => omega
      | succ n =>
        rw [body_go h0]
        have ih := body_ok n (r.drop (chr r).2) (by rw [List.length_drop]; omega)
        unfold okQ at ih ⊢
        rw [List.all_cons, ih, Bool.and_true, bne_iff_ne]
        exact chr_ok h0
/-- What a token is, by its kind. -/
theorem tok_ok {r : Bs} (hr : r ≠ []) (h : (tok r).1 ≠ 0) : okT (tok r).1 (tok r).2.1 = true ∧ ((tok r).1 ≠ 6) ∧
    ((tok r).1 = 4 → r.head? = some 34 ∧ (tok r).2.1.length + 2 ≤ (tok r).2.2) ∧ ((tok r).1 ≠ 4 → r.take (tok r).2.2 = (tok r).2.1 ∧ (tok r).2.1.length = (tok r).2.2) := by
  have hlen := tok_le hr
  obtain ⟨c, t, rfl⟩ := List.exists_cons_of_ne_nil hr
  rw [tok_cons] at h hlen ⊢
  have htl : ∀ n, n ≤ (c :: t).length → ((c :: t).take n).length = n := fun n hn => by rw [List.length_take]; omega
  by_cases a1 : isL c = true
  · rw [if_pos a1] at h hlen ⊢
    simp only at h hlen ⊢
    refine ⟨?_, by decide, fun h => absurd h (by decide), fun _ => ⟨trivial, htl _ hlen.2⟩⟩
    unfold okT word
    rw [if_pos rfl, htl _ hlen.2]
    rw [List.take_succ_cons, List.headD_cons, a1, List.tail_cons]
    have hw : ∀ l : Bs, wdLen (l.take (wdLen l)) = wdLen l := by
      intro l
      have := wdLen_swap (l.take (wdLen l)) (l.drop (wdLen l)) [] (by
        rw [List.take_append_drop, List.length_take]
        have := wdLen_le l
        omega) (by decide)
      rwa [List.append_nil, List.take_append_drop] at this
    rw [hw]; simp
  rw [if_neg a1] at h hlen ⊢
  by_cases a2 : isD c = true ∨ c = 45 ∧ isD (t.headD 0) = true
  · rw [if_pos a2] at h hlen ⊢
    simp only at h hlen ⊢
    have hl := htl _ hlen.2
    by_cases b1 : int ((c :: t).take (numLen t + 1)) = true
    · rw [if_pos b1]
      exact ⟨by unfold okT; rw [if_neg (by decide), if_pos rfl, b1], by decide, fun h => absurd h (by decide), fun _ => ⟨trivial, hl⟩⟩
    rw [if_neg b1] at h ⊢
    by_cases b2 : (timeV ((c :: t).take (numLen t + 1))).isSome = true
    · rw [if_pos b2]
      exact ⟨by unfold okT; rw [if_neg (by decide), if_neg (by decide), if_pos rfl, b2], by decide, fun h => absurd h (by decide), fun _ => ⟨trivial, hl⟩⟩
    · rw [if_neg b2] at h; exact absurd rfl h
  rw [if_neg a2] at h hlen ⊢
  by_cases a3 : c = 34
  · rw [if_pos a3] at h hlen ⊢
    cases hq : qt (c :: t) with
    | none => rw [hq] at h; exact absurd rfl h
    | some q =>
      obtain ⟨s, n⟩ := q
      have hqt := qt_le hr hq
      simp only
      refine ⟨?_, by decide, fun _ => ⟨by rw [a3]; rfl, hqt.2.2⟩, fun h => absurd rfl h⟩
      unfold okT
      rw [if_neg (by decide), if_neg (by decide), if_neg (by decide), if_pos rfl]
      unfold qt at hq
      split at hq
      · simp only [Option.some.injEq, Prod.mk.injEq] at hq
        rw [← hq.1]
        exact body_ok _ _ (Nat.le_refl _)
      · cases hq
  rw [if_neg a3] at h hlen ⊢
  by_cases a4 : sgn (c :: t) ≠ []
  · rw [if_pos a4] at hlen ⊢
    simp only at hlen ⊢
    refine ⟨?_, by decide, fun h => absurd h (by decide), fun _ => ⟨?_, trivial⟩⟩
    · unfold okT
      rw [if_neg (by decide), if_neg (by decide), if_neg (by decide), if_neg (by decide), if_pos rfl]
      rcases sgn_mem (c :: t) with h1 | h1
      · exact absurd h1 a4
      · exact (sign_all _ h1).1
    · exact (List.prefix_iff_eq_take.1 (sgn_pre (c :: t))).symm
  · rw [if_neg a4] at h; exact absurd rfl h

/-- What holds of a token that is not the end. -/
structure TkOk (src : Bs) (x : Tk) : Prop where
  ok : okT x.k x.t = true
  n6 : x.k ≠ 6
  lt : x.a < src.length
  tl : x.t.length ≤ src.length
  q : x.k = 4 → src[x.a]? = some 34
  tx : x.k ≠ 4 → x.t ≠ [] ∧ x.a + x.t.length ≤ src.length ∧ (src.drop x.a).take x.t.length = x.t
/-- What holds of the tokens and problems from p on. -/
structure LexOk (src : Bs) (p m : Nat) (L : List Tk) (B : List Nat) : Prop where
  ex : ∃ L0, L = L0 ++ [⟨6, [], src.length⟩] ∧ (∀ x ∈ L0, TkOk src x) ∧ (jt (L0.map Tk.tok)).length ≤ 3 * (src.length - p) ∧ L0.length ≤ src.length - p
  ge : ∀ x ∈ L, p ≤ x.a
  inc : (L.map Tk.a).Pairwise (· < ·)
  bge : ∀ b ∈ B, p ≤ b ∧ b < src.length
  binc : B.Pairwise (· < ·)
  dis : ∀ b ∈ B, ∀ x ∈ L, x.a ≠ b
  many : m ≤ 64 → m + B.length ≤ 64
theorem LexOk.mono {src : Bs} {p q m : Nat} {L : List Tk} {B : List Nat} (h : LexOk src p m L B) (hq : q ≤ p) : LexOk src q m L B := by
  obtain ⟨L0, h1, h2, h3, h4⟩ := h.ex
  exact ⟨⟨L0, h1, h2, by omega, by omega⟩, fun x hx => Nat.le_trans hq (h.ge x hx), h.inc, fun b hb => ⟨Nat.le_trans hq (h.bge b hb).1, (h.bge b hb).2⟩, h.binc, h.dis, h.many⟩
theorem txB_le (src : Bs) (p : Nat) (hr : src.drop p ≠ []) (h : (tok (src.drop p)).1 ≠ 0) : (txB ⟨(tok (src.drop p)).1, (tok (src.drop p)).2.1, p⟩).length ≤ 2 * (tok (src.drop p)).2.2 := by
  obtain ⟨h1, h2, h3, h4⟩ := tok_ok hr h
  unfold txB txT
  simp only
  by_cases a : (tok (src.drop p)).1 = 4
  · rw [if_pos a]
    have := (h3 a).2
    unfold quotR
    split
    · rw [S_data]; unfold quotB
      have := flat_len (tok (src.drop p)).2.1
      rw [List.length_cons, List.length_append, List.length_singleton]; omega
    · rw [S_data]; simp
  · rw [if_neg a]
    have := (h4 a).2
    split
    · rw [S_data]; omega
    · rw [S_data]; simp
theorem lexS_all (src : Bs) (f : Nat) (ih : ∀ p e m, p ≤ src.length → src.length - p < f → LexOk src p m (lex f (src.drop p) p e m).1 (lex f (src.drop p) p e m).2)
    (p : Nat) (e : Int) (m : Nat) (hp : p ≤ src.length) (hf : src.length - p ≤ f) : LexOk src p m (lexS f (src.drop p) p e m).1 (lexS f (src.drop p) p e m).2 := by
  by_cases hr : src.drop p = []
  · have hl : p = src.length := by
      have := congrArg List.length hr
      rw [List.length_drop, List.length_nil] at this; omega
    simp only [lexS]
    rw [if_pos hr]
    exact ⟨⟨[], by rw [hl]; rfl, by simp, by simp [jt], by simp⟩, by simp, by simp, by simp, by simp, by simp, by simp⟩
  · have hlen := tok_le hr
    have hp1 : p < src.length := by
      rcases Nat.lt_or_ge p src.length with h | h
      · exact h
      · exact absurd (List.drop_of_length_le h) hr
    rw [List.length_drop] at hlen
    have hd : (src.drop p).drop (tok (src.drop p)).2.2 = src.drop (p + (tok (src.drop p)).2.2) := by rw [List.drop_drop]
    by_cases h0 : (tok (src.drop p)).1 = 0
    · have go : ∀ e m, LexOk src (p + (tok (src.drop p)).2.2) m _ _ := fun e m => ih (p + (tok (src.drop p)).2.2) e m (by omega) (by omega)
      simp only [lexS]
      rw [if_neg hr, if_pos h0, hd]
      split
      · rename_i hc
        have g := go ((p + (tok (src.drop p)).2.2 : Nat) : Int) (m + 1)
        refine ⟨(g.mono (by omega)).ex, (g.mono (by omega)).ge, g.inc, ?_, ?_, ?_, ?_⟩
        · intro b hb
          rcases List.mem_cons.1 hb with rfl | hb
          · omega
          · have := g.bge b hb; omega
        · exact List.Pairwise.cons (fun b hb => by have := g.bge b hb; omega) g.binc
        · intro b hb x hx
          rcases List.mem_cons.1 hb with rfl | hb
          · have := g.ge x hx; omega
          · exact g.dis b hb x hx
        · intro hm
          have := g.many (by omega)
          simp only [List.length_cons]; omega
      · exact (go _ m).mono (by omega)
    · obtain ⟨k1, k2, k3, k4⟩ := tok_ok hr h0
      have hx := txB_le src p hr h0
      have g := ih (p + (tok (src.drop p)).2.2) e m (by omega) (by omega)
      simp only [lexS]
      rw [if_neg hr, if_neg h0, hd]
      obtain ⟨L0, e1, e2, e3, e4⟩ := g.ex
      have hnew : TkOk src ⟨(tok (src.drop p)).1, (tok (src.drop p)).2.1, p⟩ := by
        refine ⟨k1, k2, hp1, ?_, fun h => ?_, fun h => ?_⟩
        · simp only
          by_cases h4 : (tok (src.drop p)).1 = 4
          · have := (k3 h4).2; omega
          · have := (k4 h4).2; omega
        · have := (k3 h).1
          rw [List.head?_drop] at this
          exact this
        · obtain ⟨b1, b2⟩ := k4 h
          exact ⟨by rintro hn; simp only at hn b2; rw [hn] at b2; simp at b2; omega, by simp only; omega, by simp only; rw [b2, b1]⟩
      refine ⟨⟨⟨(tok (src.drop p)).1, (tok (src.drop p)).2.1, p⟩ :: L0, by rw [e1]; rfl, ?_, ?_, by simp only [List.length_cons]; omega⟩, ?_, ?_, ?_, g.binc, ?_, g.many⟩
      · intro x hx
        rcases List.mem_cons.1 hx with rfl | hx
        · exact hnew
        · exact e2 x hx
      · rw [List.map_cons]
        have hx' : (txB (Tk.tok ⟨(tok (src.drop p)).1, (tok (src.drop p)).2.1, p⟩)).length ≤ 2 * (tok (src.drop p)).2.2 := hx
        cases hL : L0.map Tk.tok with
        | nil => simp only [jt]; omega
        | cons y r =>
          rw [hL] at e3
          rw [jt_cons, List.length_append, List.length_cons]; omega
      · intro x hx
        rcases List.mem_cons.1 hx with rfl | hx
        · exact Nat.le_refl _
        · have := g.ge x hx; omega
      · rw [List.map_cons]
        refine List.Pairwise.cons (fun a ha => ?_) g.inc
        obtain ⟨x, hx, rfl⟩ := List.mem_map.1 ha
        have := g.ge x hx
        simp only; omega
      · intro b hb
        have := g.bge b hb; omega
      · intro b hb x hx
        rcases List.mem_cons.1 hx with rfl | hx
        · have := g.bge b hb; simp only; omega
        · exact g.dis b hb x hx
theorem lex_all (src : Bs) : ∀ (f p : Nat) (e : Int) (m : Nat), p ≤ src.length → src.length - p < f → LexOk src p m (lex f (src.drop p) p e m).1 (lex f (src.drop p) p e m).2
  | 0, _, _, _, _, h => by omega
  | f + 1, p, e, m, hp, hf => by
    have hs := skq_le src p hp
    rw [lex_at f src p hp]
    exact (lexS_all src f (fun p e m hp hf => lex_all src f p e m hp hf) (skq src p) e m hs.2 (by omega)).mono hs.1
theorem tokens_all (src : Bs) : LexOk src 0 0 (tokens src).1 (tokens src).2 := by
  have := lex_all src (src.length + 1) 0 (-1) 0 (Nat.zero_le _) (by omega)
  rw [List.drop_zero] at this
  exact this
theorem tokens_small (src : Bs) : (tokens src).1.length ≤ src.length + 1 ∧ ∀ x ∈ (tokens src).1, x.t.length ≤ src.length := by
  obtain ⟨L0, h1, h2, _, h4⟩ := (tokens_all src).ex
  rw [h1]
  refine ⟨by rw [List.length_append, List.length_singleton]; omega, fun x hx => ?_⟩
  rcases List.mem_append.1 hx with h | h
  · exact (h2 x h).tl
  · rw [List.mem_singleton.1 h]; simp
end Go.Proofs.YtlcmedimgoaneaaGreatDoor
