/- Plain mathematics: adding distributes over unions; shifts are additions. -/
import Derived.Test.YtdennlekjndfkaaMath8
import Derived.Test.YtdennlekjndfkaaRefG
import Derived.Test.YtdennlekjndfkaaUnion
namespace Go.Proofs.Ytdennlekjndfkaa

theorem limE_zero {l : List Sp} (h : limE l = 0) : limS l = l := by
  unfold limE at h; unfold limS
  split at h
  · cases h
  · next g => rw [if_neg g]
theorem errLL_pos {a b : List Sp} (h : errLL a b = 0) : Pos a ∧ Pos b := ⟨errL_pos (errLL_zero h).1, errL_pos (errLL_zero h).2⟩
theorem union_zero {a b : List Sp} (h : unionE a b = 0) : errLL a b = 0 ∧ unionS a b = canon (a ++ b) := by
  unfold unionE at h
  split at h
  · next g => exact ⟨g, by unfold unionS; rw [if_pos g]; exact limE_zero h⟩
  · next g => exact absurd h g
theorem add_zero' {a b : List Sp} (h : addE a b = 0) : errLL a b = 0 ∧ addS a b = addC (canon a) (canon b) := by
  unfold addE at h
  split at h
  · next g =>
    split at h
    · cases h
    · next g2 =>
      split at h
      · next g3 => exact ⟨g, by unfold addS; rw [if_pos g, if_neg g2, if_pos g3]; exact limE_zero h⟩
      · cases h
  · next g => exact absurd h g
theorem mem_sums {a b : List Sp} (ha : Pos a) (hb : Pos b) (t : Int) : mem (sumsL a b) t ↔ ∃ s, mem a s ∧ mem b (t - s) := by
  constructor
  · rintro ⟨z, hz, h1, h2⟩
    obtain ⟨x, hx, y, hy, rfl⟩ := sumsL_mem.1 hz
    have px := ha x hx
    have py := hb y hy
    change x.1 + y.1 ≤ t at h1
    change t ≤ x.2 + y.2 at h2
    by_cases g : t - y.1 ≤ x.2
    · exact ⟨t - y.1, ⟨x, hx, by omega, g⟩, ⟨y, hy, by omega, by omega⟩⟩
    · exact ⟨x.2, ⟨x, hx, px, by omega⟩, ⟨y, hy, by omega, by omega⟩⟩
  · rintro ⟨s, ⟨x, hx, h1, h2⟩, ⟨y, hy, h3, h4⟩⟩
    exact ⟨sm x y, sumsL_mem.2 ⟨x, hx, y, hy, rfl⟩, by show x.1 + y.1 ≤ t; omega, by show t ≤ x.2 + y.2; omega⟩
theorem addC_mem {a b : List Sp} (ha : Pos a) (hb : Pos b) : Tidy (addC (canon a) (canon b)) ∧ ∀ t, mem (addC (canon a) (canon b)) t ↔ ∃ s, mem a s ∧ mem b (t - s) := by
  have ta := canon_tidy a ha
  have tb := canon_tidy b hb
  rw [addC_canon ta.1.1 tb.1.1]
  obtain ⟨h1, h2⟩ := canon_tidy _ (sumsL_pos ta.1.1 tb.1.1)
  refine ⟨h1, fun t => ?_⟩
  rw [h2, mem_sums ta.1.1 tb.1.1]
  constructor
  · rintro ⟨s, g1, g2⟩; exact ⟨s, (ta.2 s).1 g1, (tb.2 _).1 g2⟩
  · rintro ⟨s, g1, g2⟩; exact ⟨s, (ta.2 s).2 g1, (tb.2 _).2 g2⟩
theorem distributes (a b c : List Sp) (h1 : unionE a b = 0) (h2 : addE (unionS a b) c = 0) (h3 : addE a c = 0) (h4 : addE b c = 0) (h5 : unionE (addS a c) (addS b c) = 0) :
    addS (unionS a b) c = unionS (addS a c) (addS b c) := by
  obtain ⟨e1, u1⟩ := union_zero h1
  obtain ⟨e2, u2⟩ := add_zero' h2
  obtain ⟨e3, u3⟩ := add_zero' h3
  obtain ⟨e4, u4⟩ := add_zero' h4
  obtain ⟨e5, u5⟩ := union_zero h5
  obtain ⟨pa, pb⟩ := errLL_pos e1
  obtain ⟨pu, pc⟩ := errLL_pos e2
  obtain ⟨py, pz⟩ := errLL_pos e5
  rw [u2, u5]
  obtain ⟨t1, m1⟩ := addC_mem pu pc
  obtain ⟨t2, m2⟩ := canon_tidy _ (Pos.append py pz)
  refine tidy_unique _ _ t1 t2 fun t => ?_
  rw [m1, m2, mem_append, u3, u4, (addC_mem pa pc).2, (addC_mem pb pc).2, u1]
  have mu := (canon_tidy _ (Pos.append pa pb)).2
  constructor
  · rintro ⟨s, g1, g2⟩
    rcases (mem_append _ _ _).1 ((mu s).1 g1) with g | g
    · exact .inl ⟨s, g, g2⟩
    · exact .inr ⟨s, g, g2⟩
  · rintro (⟨s, g1, g2⟩ | ⟨s, g1, g2⟩)
    · exact ⟨s, (mu s).2 ((mem_append _ _ _).2 (.inl g1)), g2⟩
    · exact ⟨s, (mu s).2 ((mem_append _ _ _).2 (.inr g1)), g2⟩
theorem unionS_len (a b : List Sp) : (unionS a b).length ≤ a.length + b.length := by
  unfold unionS
  split
  · next g =>
    obtain ⟨g1, g2⟩ := errLL_zero g
    have := canon_len (a ++ b) (fun x hx => by rcases List.mem_append.1 hx with h | h; exact errL_bd g1 x h; exact errL_bd g2 x h)
    rw [List.length_append] at this
    unfold limS; split
    · simp
    · exact this
  · simp

theorem shL_pos {a : List Sp} {b : Int} (h : Pos a) : Pos (shL a b) := fun s hs => by
  unfold shL at hs
  obtain ⟨x, hx, rfl⟩ := List.mem_map.1 hs
  have := h x hx
  show x.1 + b ≤ x.2 + b
  omega
theorem shL_gap {a : List Sp} {b : Int} (h : Gap a) : Gap (shL a b) := by
  unfold Gap shL at *
  rw [List.pairwise_map]
  exact h.imp fun {x y} hxy => by dsimp only; omega
theorem shL_tidy {a : List Sp} {b : Int} (h : Tidy a) : Tidy (shL a b) := ⟨shL_pos h.1, shL_gap h.2⟩
theorem canon_self {a : List Sp} (h : Tidy a) : canon a = a := (canon_eq h.1 h fun _ => Iff.rfl).symm
theorem sums_one (a : List Sp) (b : Int) : sumsL a [(b, b)] = shL a b := by
  induction a with
  | nil => rfl
  | cons x a ih => rw [sumsL_cons, ih]; rfl
theorem shL_back (a : List Sp) (b : Int) : shL (shL a b) (-b) = a := by
  unfold shL
  rw [List.map_map]
  conv => rhs; rw [← List.map_id a]
  refine List.map_congr_left fun x _ => ?_
  show ((x.1 + b) + -b, (x.2 + b) + -b) = x
  rw [Int.add_neg_cancel_right, Int.add_neg_cancel_right]
theorem errL_one {b : Int} (hb : -70368744177664 ≤ b ∧ b ≤ 70368744177664) : errL [(b, b)] = 0 := by
  have : okSp (b, b) = true := (okSp_iff _).2 ⟨hb.1, hb.2, Int.le_refl _⟩
  unfold errL
  rw [if_neg (by simp), if_pos (by simp [this])]
/-- What SpanShifts compares. -/
theorem shifts (a : List Sp) (b : Int) (ha : a.length ≤ 24) (hb : -70368744177664 ≤ b ∧ b ≤ 70368744177664) :
    (shiftE a b ≠ 0 → addE a [(b, b)] ≠ 0 ∧ shiftS a b = []) ∧
    (shiftE a b = 0 → addE a [(b, b)] = 0 ∧ errL a = 0 ∧ shiftE (shiftS a b) (-b) = 0 ∧ shiftS a b = addS a [(b, b)] ∧ shiftS (shiftS a b) (-b) = setS a) := by
  have e1 := errL_one hb
  have eLL : errLL a [(b, b)] = errL a := by
    unfold errLL
    split
    · next g => rw [e1, g]
    · rfl
  have tb : Tidy [(b, b)] := tidy_cons.2 ⟨Int.le_refl _, (fun y hy => (by cases hy)), tidy_nil⟩
  have cb : canon [(b, b)] = [(b, b)] := canon_self tb
  by_cases h : errL a = 0
  · have hp := errL_pos h
    obtain ⟨ta, _⟩ := canon_tidy a hp
    have hbd := errL_bd h
    have hl := Nat.le_trans (canon_len a hbd) ha
    have hall : allOk (canon a) [(b, b)] = shOk (canon a) b := by
      rw [allOk_sums, sums_one]
      unfold shOk shL
      rw [List.all_map]; rfl
    have haddC : addC (canon a) [(b, b)] = shL (canon a) b := by
      rw [addC_canon ta.1 tb.1, sums_one]; exact canon_self (shL_tidy ta)
    have hlen : (shL (canon a) b).length = (canon a).length := by unfold shL; rw [List.length_map]
    have hlim : limE (shL (canon a) b) = 0 ∧ limS (shL (canon a) b) = shL (canon a) b := by
      have : ¬ 4096 < (shL (canon a) b).length := by omega
      unfold limE limS; rw [if_neg this, if_neg this]; exact ⟨rfl, rfl⟩
    cases hs : shOk (canon a) b with
    | true =>
      obtain ⟨s1, s2⟩ := shift_ok h hs
      have hA : addE a [(b, b)] = 0 ∧ addS a [(b, b)] = shL (canon a) b := by
        obtain ⟨x1, x2⟩ := addE_ok (a := a) (b := [(b, b)]) (by rw [eLL, h]) (by rw [cb]; simp; omega) (by rw [cb, hall, hs])
        rw [cb, haddC] at x1 x2
        rw [x1, x2]; exact hlim
      refine ⟨fun g => absurd s1 g, fun _ => ⟨hA.1, h, ?_⟩⟩
      have hallx : ∀ x ∈ shL (canon a) b, okSp x = true := fun x hx => by
        unfold shL at hx
        obtain ⟨y, hy, rfl⟩ := List.mem_map.1 hx
        unfold shOk at hs
        exact List.all_eq_true.1 hs y hy
      have ex : errL (shL (canon a) b) = 0 := by
        unfold errL
        rw [if_neg (by omega), if_pos (List.all_eq_true.2 hallx)]
      have cx : canon (shL (canon a) b) = shL (canon a) b := canon_self (shL_tidy ta)
      have ox : shOk (canon (shL (canon a) b)) (-b) = true := by
        rw [cx]
        unfold shOk shL
        rw [List.all_map]
        refine List.all_eq_true.2 fun x hx => ?_
        have := canon_okSp a (errL_all h).2 x hx
        show okSp ((x.1 + b) + -b, (x.2 + b) + -b) = true
        rw [Int.add_neg_cancel_right, Int.add_neg_cancel_right]; exact this
      obtain ⟨z1, z2⟩ := shift_ok ex ox
      rw [s2]
      refine ⟨z1, hA.2.symm, ?_⟩
      rw [z2, cx, shL_back]
      unfold setS; rw [if_pos h]
    | false =>
      obtain ⟨s1, s2⟩ := shift_bad h hs
      obtain ⟨x1, _⟩ := addE_bad (a := a) (b := [(b, b)]) (by rw [eLL, h]) (by rw [cb]; simp; omega) (by rw [cb, hall, hs])
      exact ⟨fun _ => ⟨by rw [x1]; decide, s2⟩, fun g => by rw [s1] at g; cases g⟩
  · obtain ⟨s1, s2⟩ := shift_err (b := b) h
    have hadd : addE a [(b, b)] = errL a := by unfold addE; rw [eLL, if_neg h]
    exact ⟨fun _ => ⟨by rw [hadd]; exact h, s2⟩, fun g => by rw [s1] at g; exact absurd g h⟩
end Go.Proofs.Ytdennlekjndfkaa
