/- The law's helpers: an environment. -/
import Derived.Test.YtabdgnigmlpeaaaGreatDoorTLaw1
import Derived.Test.YtabdgnigmlpeaaaGreatDoorTBase
import Derived.OrdersHeld
import Derived.Test.YtabdgnigmlpeaaaGreatDoorTHolds
import Derived.Laws.BitsLemmas
import Derived.Test.YtabdgnigmlpeaaaGreatDoorTRead
namespace Go.Proofs.YtabdgnigmlpeaaaGreatDoor
open Go.RowKit

/-- The environment of a number. -/
def envL (n : Int) : En := ⟨(bits BinOp.and IntKind.i64 n 1073741823).tmod 8, (wrap64 ((bits BinOp.and IntKind.i64 n 1073741823).tdiv 8)).tmod 4001, (wrap64 ((bits BinOp.and IntKind.i64 n 1073741823).tdiv 32008)).tmod 2⟩
set_option maxHeartbeats 1000000 in
theorem envOf_any (n : Int) (w : World) : Calls Tryz.prog 27 #[.int .i64 n] w fun e w' => e = .returned (envV (envL n)) ∧ Below w.heap.size w w' := by
  have HA := Lib.hid ((Below.refl w.heap.size w).alloc (Nat.le_refl _) (.cells #[.int .i64 (envL n).d, .int .i64 (envL n).f, .int .i64 (envL n).s] 42))
  go_enter Tryz.func27, Tryz.ntmps27
  go_wp2_with fail
  refine bodyPost_ret (v := envV (envL n)) ?_ rfl ?_
  · simp [results, Tryz.results27, go_sem, envV, envL]
  · exact ⟨rfl, HA.out⟩
end Go.Proofs.YtabdgnigmlpeaaaGreatDoor
/- A region that draws its order, walked in an order of one's own: what yields its value in every world that meets S may be taken first; what is left must come up alone. -/
namespace Go.Proofs.YtabdgnigmlpeaaaGreatDoor
open Go.RowKit

/-- A plan: (true, i): number i is taken first; (false, i): number i comes up alone. -/
def planOk (ops : Array Oper) : List (Bool × Nat) → Array Bool → Bool
  | [], listed => (Region.ready .any ops listed).isEmpty
  | (t, i) :: rest, listed => (if t then Region.free .any ops listed i && (Region.ready .any ops listed).contains i else Region.ready .any ops listed == [i]) && planOk ops rest (listed.setIfInBounds i true)
/-- The walk along a plan. -/
def seqH (P : Program) (ops : Array Oper) (Q : Exit → Act → World → Prop) (S : World → Prop) : List (Bool × Nat) → Act → World → Prop
  | [], a, w => Q .normal a w
  | (true, i) :: rest, a, w => ∃ o v, ops[i]? = some o ∧ YieldsIf P ops S o v a ∧ seqH P ops Q S rest (a.put o.dst v) w
  | (false, i) :: rest, a, w => wpOp P ops Q i (fun a' w' => S w' ∧ seqH P ops Q S rest a' w') a w
theorem plan_any {P : Program} {ops : Array Oper} {Q : Exit → Act → World → Prop} {S : World → Prop} (hsel : Region.noSelect ops = true) (hQ : ∀ c a d v w, Q (.panic c) (Act.put a d v) w → Q (.panic c) a w) :
    ∀ (plan : List (Bool × Nat)) (fuel : Nat) (listed : Array Bool) (a : Act) (w : World), plan.length ≤ fuel → planOk ops plan listed = true → S w → seqH P ops Q S plan a w → wpAnyH P .any ops Q S fuel listed a w
  | [], fuel, listed, a, w, _, hok, _, h => by
    rw [planOk, List.isEmpty_iff] at hok
    exact wpAnyH_done hok h fuel
  | (true, i) :: rest, 0, _, _, _, hl, _, _, _ => absurd hl (by simp)
  | (false, i) :: rest, 0, _, _, _, hl, _, _, _ => absurd hl (by simp)
  | (true, i) :: rest, fuel + 1, listed, a, w, hl, hok, hS, h => by
    rw [planOk, if_pos rfl, Bool.and_eq_true, Bool.and_eq_true] at hok
    rw [seqH] at h
    obtain ⟨o, v, ho, hy, hr⟩ := h
    exact wpAnyH_take ho hsel hok.1.1 hok.1.2 (fun c a w => hQ c a o.dst v w) hy hS (plan_any hsel hQ rest fuel _ _ _ (by simpa using hl) hok.2 hS hr)
  | (false, i) :: rest, fuel + 1, listed, a, w, hl, hok, hS, h => by
    rw [planOk, if_neg (by decide), Bool.and_eq_true] at hok
    rw [seqH] at h
    have hr : Region.ready .any ops listed = [i] := by simpa using hok.1
    refine wpAnyH_all hr (by simp) fun j hj => ?_
    obtain rfl := List.mem_singleton.1 hj
    exact wpOp_mono (fun a' w' h' => ⟨h'.1, plan_any hsel hQ rest fuel _ _ _ (by simpa using hl) hok.2 h'.1 h'.2⟩) h
theorem region_plan {P : Program} {ops : Array Oper} {Q : Exit → Act → World → Prop} {S : World → Prop} {id : Nat} {a : Act} {w : World} (hm : P.follows .mixedOrders = true) (hsel : Region.noSelect ops = true)
    (hQ : ∀ c a d v w, Q (.panic c) (Act.put a d v) w → Q (.panic c) a w) (plan : List (Bool × Nat)) (hl : plan.length ≤ ops.size) (hok : planOk ops plan (Array.replicate ops.size false) = true) (hS : S w.drew)
    (h : seqH P ops Q S plan a w.drew) : (Code.region id ops true).wp P Q a w :=
  wp_region_held hm (plan_any hsel hQ plan _ _ _ _ hl hok hS h)
section
variable {P : Program} {ops : Array Oper} {Q : Exit → Act → World → Prop} {S : World → Prop} {i : Nat} {rest : List (Bool × Nat)} {a : Act} {w : World}
theorem seq_take {o : Oper} {v : Value} (ho : ops[i]? = some o) (hw : Region.wanted o (yielded ops a.tmps) = true) (hv : ∀ w, S w → (execOp a.eval o).run P w = .ok (.value v) w) (h : seqH P ops Q S rest (a.put o.dst v) w) : seqH P ops Q S ((true, i) :: rest) a w := by
  rw [seqH]
  exact ⟨o, v, ho, .inl ⟨hw, hv⟩, h⟩
theorem seq_skip {o : Oper} (ho : ops[i]? = some o) (hw : Region.wanted o (yielded ops a.tmps) = false) (h : seqH P ops Q S rest (a.put o.dst undef) w) : seqH P ops Q S ((true, i) :: rest) a w := by
  rw [seqH]
  exact ⟨o, undef, ho, .inr ⟨hw, rfl⟩, h⟩
theorem seq_run {o : Oper} (ho : ops[i]? = some o) (hw : Region.wanted o (yielded ops a.tmps) = true) (h : ∀ K : Act → World → Prop, Hid (∀ a w, S w → (S w → seqH P ops Q S rest a w) → K a w) → Oper.wp P o a w K Q) : seqH P ops Q S ((false, i) :: rest) a w := by
  rw [seqH]
  unfold wpOp
  simp only [ho, hw, if_true]
  exact .inl (h _ (Lib.hid fun a w hS hr => ⟨hS, hr hS⟩))
theorem seq_idle {o : Oper} (ho : ops[i]? = some o) (hw : Region.wanted o (yielded ops a.tmps) = false) (hS : S w) (h : seqH P ops Q S rest (a.put o.dst undef) w) : seqH P ops Q S ((false, i) :: rest) a w := by
  rw [seqH]
  unfold wpOp
  simp only [ho, hw, Bool.false_eq_true, if_false]
  exact ⟨hS, h⟩
theorem seq_end (h : Q .normal a w) : seqH P ops Q S [] a w := by
  rw [seqH]
  exact h
end
/-- The operations of the region of that number. -/
def findOps (n : Nat) : Code → Option (Array Oper)
  | .region k ops _ => if k = n then some ops else none
  | .seq c e => match findOps n c with
    | some r => some r
    | none => findOps n e
  | .cond _ c e => match findOps n c with
    | some r => some r
    | none => findOps n e
  | .block _ c => findOps n c
  | .loop c => findOps n c
  | .scope c => findOps n c
  | _ => none
end Go.Proofs.YtabdgnigmlpeaaaGreatDoor
/- Negations, conjunctions, disjunctions: when they are valid, and when they hold. -/
namespace Go.Proofs.YtabdgnigmlpeaaaGreatDoor
open Go.RowKit

theorem i64_and30 (n : Int) : bits .and .i64 n 1073741823 = n % 1073741824 := by
  have h127 : (BitVec.ofInt 64 1073741823).toNat = 2 ^ 30 - 1 := by decide
  have key : (BitVec.ofInt 64 n &&& BitVec.ofInt 64 1073741823).toNat = (n % ((2 ^ 64 : Nat) : Int)).toNat % 2 ^ 30 := by
    rw [BitVec.toNat_and, BitVec.toNat_ofInt, h127, Nat.and_two_pow_sub_one_eq_mod]
  show IntKind.i64.wrap ((BitVec.ofInt 64 n &&& BitVec.ofInt 64 1073741823).toNat : Nat) = n % 1073741824
  rw [key, IntKind.wrap_i64]
  omega
theorem wrap64_small (n : Int) (h0 : 0 ≤ n) (h1 : n < 9223372036854775808) : wrap64 n = n := by
  unfold wrap64
  omega
theorem envL_ok (n : Int) : envE (envL n) = 0 := by
  unfold envE envL En.ok
  rw [i64_and30]
  have h0 : 0 ≤ n % 1073741824 := Int.emod_nonneg _ (by decide)
  have h1 : n % 1073741824 < 1073741824 := Int.emod_lt_of_pos _ (by decide)
  generalize n % 1073741824 = m at *
  have e1 : m.tdiv 8 = m / 8 := Int.tdiv_eq_ediv_of_nonneg h0
  have e2 : m.tdiv 32008 = m / 32008 := Int.tdiv_eq_ediv_of_nonneg h0
  have k1 : 0 ≤ m / 8 := by omega
  have k2 : 0 ≤ m / 32008 := by omega
  rw [e1, e2, wrap64_small _ k1 (by omega), wrap64_small _ k2 (by omega)]
  have e3 : m.tmod 8 = m % 8 := Int.tmod_eq_emod_of_nonneg h0
  have e4 : (m / 8).tmod 4001 = m / 8 % 4001 := Int.tmod_eq_emod_of_nonneg k1
  have e5 : (m / 32008).tmod 2 = m / 32008 % 2 := Int.tmod_eq_emod_of_nonneg k2
  simp only [e3, e4, e5]
  rw [if_pos]
  simp only [Bool.and_eq_true, decide_eq_true_eq]
  omega

mutual
theorem dpC_mono : ∀ (c : Cd) (d : Nat), dpC (d + 1) c = true → dpC d c = true
  | .mk k v n ps, d, h => by
    rw [dpC, Bool.and_eq_true] at h ⊢
    refine ⟨?_, dpCs_mono ps (d + 1) h.2⟩
    rcases Bool.or_eq_true _ _ ▸ h.1 with h1 | h1
    · rw [h1]; rfl
    · have : d + 1 + 1 ≤ 16 := by simpa using h1
      rw [decide_eq_true (by omega : d + 1 ≤ 16), Bool.or_true]
theorem dpCs_mono : ∀ (l : List Cd) (d : Nat), dpCs (d + 1) l = true → dpCs d l = true
  | [], d, _ => by rw [dpCs]
  | c :: l, d, h => by
    rw [dpCs, Bool.and_eq_true] at h ⊢
    exact ⟨dpC_mono c d h.1, dpCs_mono l d h.2⟩
end
theorem condE_zero (c : Cd) : condE c = 0 ↔ (dpC 0 c = true ∧ szC c ≤ 256) ∧ rngF (formC c) = true := by
  have h := fitL_one c
  rw [cntC_iff] at h
  unfold condE
  constructor
  · intro h1
    split at h1
    · cases h1
    · rename_i h2
      split at h1
      · rename_i h3
        exact ⟨h.1 (by simpa using h2), h3⟩
      · cases h1
  · rintro ⟨h1, h2⟩
    rw [h.2 h1, if_neg (by decide), if_pos h2]
/-- A negation, a list of parts. -/
def notC (a : Cd) : Cd := .mk 4 0 0 [a]
def joinC (k : Int) (l : List Cd) : Cd := .mk k 0 0 l
theorem form_not (a : Cd) : formC (notC a) = .neg (formC a) := by
  unfold notC
  rw [formC, if_neg (by simp), if_neg (by simp), if_neg (by simp), if_pos ⟨rfl, rfl, rfl, rfl⟩, formCs, formCs]
theorem form_and (l : List Cd) : formC (joinC 2 l) = .all (l.map formC) := by
  unfold joinC
  rw [formC, if_neg (by simp), if_pos ⟨rfl, rfl, rfl⟩, formCs_eq]
theorem form_or (l : List Cd) : formC (joinC 3 l) = .one (l.map formC) := by
  unfold joinC
  rw [formC, if_neg (by simp), if_neg (by simp), if_pos ⟨rfl, rfl, rfl⟩, formCs_eq]
theorem rng_not (a : Cd) : rngF (formC (notC a)) = rngF (formC a) := by rw [form_not, rngF]
theorem rng_join (k : Int) (hk : k = 2 ∨ k = 3) (l : List Cd) (h1 : l ≠ []) (h2 : l.length ≤ 16) (h : ∀ c ∈ l, rngF (formC c) = true) : rngF (formC (joinC k l)) = true := by
  have hl : 1 ≤ l.length := by cases l with | nil => exact absurd rfl h1 | cons a l => simp
  have hall : rngFs (l.map formC) = true := by
    rw [rngFs_eq, List.all_eq_true]
    intro f hf
    obtain ⟨c, hc, rfl⟩ := List.mem_map.1 hf
    exact h c hc
  rcases hk with rfl | rfl
  · rw [form_and, rngF, hall, Bool.and_true, List.length_map, decide_eq_true ⟨hl, h2⟩]
  · rw [form_or, rngF, hall, Bool.and_true, List.length_map, decide_eq_true ⟨hl, h2⟩]
theorem dp_not (d : Nat) (a : Cd) : dpC d (notC a) = (decide (d + 1 ≤ 16) && dpC (d + 1) a) := by
  unfold notC; rw [dpC, dpCs, dpCs, Bool.and_true]; rfl
theorem dp_join (d : Nat) (k : Int) (a : Cd) (l : List Cd) : dpC d (joinC k (a :: l)) = (decide (d + 1 ≤ 16) && dpCs (d + 1) (a :: l)) := by
  unfold joinC; rw [dpC]; rfl
theorem sz_not (a : Cd) : szC (notC a) = 1 + szC a := by unfold notC; rw [szC, szCs, szCs]; omega
theorem sz_join (k : Int) (l : List Cd) : szC (joinC k l) = 1 + szCs l := by unfold joinC; rw [szC]

/-- What the law's holds says. -/
def holdB (c : Cd) (x : En) : Bool := ((holdsR c x).2 == 0) && (holdsR c x).1
theorem holdB_ok {c : Cd} {x : En} (h : condE c = 0) (hx : envE x = 0) : holdB c x = holdF x (formC c) := by
  unfold holdB holdsR
  rw [if_neg (by rw [h]; decide), if_neg (by rw [hx]; decide)]
  rfl
theorem logic_eqs (a b : Cd) (x : En) (hx : envE x = 0) (ha : condE a = 0) (hb : condE b = 0) (h1 : condE (notC (joinC 2 [a, b, a])) = 0) (h2 : condE (joinC 3 [notC a, notC b]) = 0) (h3 : condE (joinC 2 [b, a, b]) = 0) :
    holdB (notC a) x = (!holdB a x) ∧ holdB (joinC 2 [a, b]) x = (holdB a x && holdB b x) ∧ holdB (joinC 3 [a, b]) x = (holdB a x || holdB b x) ∧ holdB (joinC 2 [b, a, b]) x = (holdB a x && holdB b x) ∧
      holdB (joinC 3 [b, a, b]) x = (holdB a x || holdB b x) ∧ holdB (notC (joinC 2 [a, b])) x = (!(holdB a x && holdB b x)) ∧ holdB (joinC 3 [notC a, notC b]) x = (!(holdB a x && holdB b x)) ∧ holdB (joinC 2 [a]) x = holdB a x := by
  have ra := ((condE_zero a).1 ha).2
  have rb := ((condE_zero b).1 hb).2
  obtain ⟨⟨d1, s1⟩, -⟩ := (condE_zero _).1 h1
  obtain ⟨⟨d3, s3⟩, -⟩ := (condE_zero _).1 h3
  have pa := szC_pos a
  have pb := szC_pos b
  rw [dp_not, dp_join, dpCs, dpCs, dpCs, dpCs] at d1
  simp only [Bool.and_eq_true, Bool.and_true] at d1
  obtain ⟨-, -, da2, db2, -⟩ := d1
  have da1 := dpC_mono a 1 da2
  have db1 := dpC_mono b 1 db2
  rw [sz_not, sz_join, szCs, szCs, szCs, szCs] at s1
  rw [sz_join, szCs, szCs, szCs, szCs] at s3
  have v1 : condE (notC a) = 0 := (condE_zero _).2 ⟨⟨by rw [dp_not, da1]; rfl, by rw [sz_not]; omega⟩, by rw [rng_not]; exact ra⟩
  have rab : ∀ c ∈ [a, b], rngF (formC c) = true := by simp [ra, rb]
  have v2 : condE (joinC 2 [a, b]) = 0 := (condE_zero _).2 ⟨⟨by rw [dp_join, dpCs, dpCs, dpCs, da1, db1]; rfl, by rw [sz_join, szCs, szCs, szCs]; omega⟩, rng_join 2 (.inl rfl) _ (by simp) (by simp) rab⟩
  have v3 : condE (joinC 3 [a, b]) = 0 := (condE_zero _).2 ⟨⟨by rw [dp_join, dpCs, dpCs, dpCs, da1, db1]; rfl, by rw [sz_join, szCs, szCs, szCs]; omega⟩, rng_join 3 (.inr rfl) _ (by simp) (by simp) rab⟩
  have v5 : condE (joinC 3 [b, a, b]) = 0 := (condE_zero _).2 ⟨⟨by rw [dp_join, dpCs, dpCs, dpCs, dpCs, da1, db1]; rfl, by rw [sz_join, szCs, szCs, szCs, szCs]; omega⟩, rng_join 3 (.inr rfl) _ (by simp) (by simp) (by simp [ra, rb])⟩
  have v6 : condE (notC (joinC 2 [a, b])) = 0 := (condE_zero _).2 ⟨⟨by rw [dp_not, dp_join, dpCs, dpCs, dpCs, da2, db2]; rfl, by rw [sz_not, sz_join, szCs, szCs, szCs]; omega⟩, by rw [rng_not]; exact rng_join 2 (.inl rfl) _ (by simp) (by simp) rab⟩
  have v8 : condE (joinC 2 [a]) = 0 := (condE_zero _).2 ⟨⟨by rw [dp_join, dpCs, dpCs, da1]; rfl, by rw [sz_join, szCs, szCs]; omega⟩, rng_join 2 (.inl rfl) _ (by simp) (by simp) (by simp [ra])⟩
  rw [holdB_ok ha hx, holdB_ok hb hx, holdB_ok v1 hx, holdB_ok v2 hx, holdB_ok v3 hx, holdB_ok h3 hx, holdB_ok v5 hx, holdB_ok v6 hx, holdB_ok h2 hx, holdB_ok v8 hx]
  rw [form_not, form_not, form_and, form_or, form_and, form_or, form_or, form_and]
  simp only [List.map, form_not, holdF, holdA, holdO, Bool.and_true, Bool.or_false]
  cases holdF x (formC a) <;> cases holdF x (formC b) <;> simp
end Go.Proofs.YtabdgnigmlpeaaaGreatDoor
/- The law's helpers not, join, holds; conditions that are built in memory. -/
namespace Go.Proofs.YtabdgnigmlpeaaaGreatDoor
open Go.RowKit

theorem bup {A w w' : World} (h : Below A.heap.size A w) (h2 : Below w.heap.size w w') : Below A.heap.size A w' := h.trans (h2.mono h.size)
theorem balloc {A w : World} (h : Below A.heap.size A w) (o : Obj) : Below A.heap.size A (w.alloc o) := h.alloc h.size o
theorem bdrew {A w : World} (h : Below A.heap.size A w) : Below A.heap.size A w.drew := h.drew
/-- The value is the condition, whose parts lie in memory. -/
def VIn (w : World) (v : Value) (c : Cd) : Prop := ∃ p cap, v = cV c p cap ∧ CdIn w (fun _ => True) c p cap
theorem VIn.up {w w' : World} {v : Value} {c : Cd} (h : VIn w v c) (hb : Below w.heap.size w w') : VIn w' v c := by
  obtain ⟨p, cap, h1, h2⟩ := h
  exact ⟨p, cap, h1, h2.bel hb⟩
theorem VIn.upd {W W' w' : World} {v : Value} {c : Cd} (hb : Below W'.heap.size W' w') (e : W' = W ∨ W' = W.drew) (h : VIn W v c) : VIn w' v c := by
  rcases e with rfl | rfl
  · exact h.up hb
  · exact (h.up (bdrew (Below.refl _ _))).up hb
theorem cond_V {w : World} {v : Value} {c : Cd} (h : VIn w v c) : Calls Tryz.prog 16 #[v] w fun e w' => e = .returned (.int .i64 (condE c)) ∧ Below w.heap.size w w' := by
  obtain ⟨p, cap, rfl, h2⟩ := h
  exact tCond_any h2
set_option maxHeartbeats 1000000 in
theorem joinK_any (k : Int) (p : Option Addr) (n cap : Nat) (w : World) : Calls Tryz.prog 29 #[.int .i64 k, .slice p n cap] w fun e w' => e = .returned (.agg #[.int .i64 k, .int .i64 0, .int .i64 0, .slice p n cap]) ∧ Below w.heap.size w w' := by
  have HA := Lib.hid ((Below.refl w.heap.size w).alloc (Nat.le_refl _) (.cells #[.int .i64 k, .int .i64 0, .int .i64 0, .slice p n cap] 40))
  go_enter Tryz.func29, Tryz.ntmps29
  go_wp2_with fail
  refine bodyPost_ret (v := .agg #[.int .i64 k, .int .i64 0, .int .i64 0, .slice p n cap]) ?_ rfl ?_
  · simp [results, Tryz.results29, go_sem]
  · exact ⟨rfl, HA.out⟩
theorem blkIn {w : World} {g cap : Nat} (k : Int) (es : List (Cd × Option Addr × Nat)) (hcap : es.length ≤ cap) (hc2 : cap ≤ 1000000) (hg : g < w.heap.size)
    (hc : ∀ i (h : i < es.length), w.cell? ⟨g, 0 + i * 4, none⟩ = some (.int .i64 es[i].1.k) ∧ w.cell? ⟨g, 0 + i * 4 + 1, none⟩ = some (.int .i64 es[i].1.v) ∧ w.cell? ⟨g, 0 + i * 4 + 2, none⟩ = some (.int .i64 es[i].1.n) ∧ w.cell? ⟨g, 0 + i * 4 + 3, none⟩ = some (.slice es[i].2.1 es[i].1.ps.length es[i].2.2))
    (hs : ∀ i (h : i < es.length), CdIn w (fun _ => True) es[i].1 es[i].2.1 es[i].2.2) : CdIn w (fun _ => True) (.mk k 0 0 (es.map (·.1))) (some ⟨g, 0, none⟩) cap := by
  have hh : ∀ i, i < (es.map (·.1)).length → i < es.length := fun i hi => by rwa [List.length_map] at hi
  refine .mk k 0 0 _ _ cap g 0 (fun i => ((es[i]?).map (·.2.1)).getD none) (fun i => ((es[i]?).map (·.2.2)).getD 0) (by rw [List.length_map]; omega) (by rw [List.length_map]; exact hcap) (by omega) (fun h => by cases h) (fun _ => ⟨rfl, trivial, hg⟩) (fun i hi => ?_) (fun i hi => ?_)
  · have h1 := hh i hi
    simp only [List.getElem?_eq_getElem h1, Option.map_some, Option.getD_some, List.getElem_map]
    exact hc i h1
  · have h1 := hh i hi
    simp only [List.getElem?_eq_getElem h1, Option.map_some, Option.getD_some, List.getElem_map]
    exact hs i h1
theorem VIn.parts {w : World} {a1 a2 a3 : Value} {s : Value} {c : Cd} (h : VIn w (.agg #[a1, a2, a3, s]) c) : ∃ p cap, a1 = .int .i64 c.k ∧ a2 = .int .i64 c.v ∧ a3 = .int .i64 c.n ∧ s = .slice p c.ps.length cap ∧ CdIn w (fun _ => True) c p cap := by
  obtain ⟨p, cap, h1, h2⟩ := h
  unfold cV at h1
  simp only [Value.agg.injEq, Array.mk.injEq, List.cons.injEq, and_true] at h1
  exact ⟨p, cap, h1.1, h1.2.1, h1.2.2.1, h1.2.2.2, h2⟩
theorem blk1 {W : World} {k : Int} {a1 a2 a3 a4 : Value} {a : Cd} (ha : VIn W (.agg #[a1, a2, a3, a4]) a) :
    VIn (W.alloc (.cells #[a1, a2, a3, a4] 40)) (.agg #[.int .i64 k, .int .i64 0, .int .i64 0, .slice (some ⟨W.heap.size, 0, none⟩) 1 1]) (joinC k [a]) := by
  obtain ⟨p, c, rfl, rfl, rfl, rfl, hA⟩ := ha.parts
  have hb := (Below.refl W.heap.size W).alloc (Nat.le_refl _) (.cells #[.int .i64 a.k, .int .i64 a.v, .int .i64 a.n, .slice p a.ps.length c] 40)
  refine ⟨_, 1, rfl, blkIn k [(a, p, c)] (by simp) (by simp) (by simp) (fun i hi => ?_) (fun i hi => ?_)⟩
  · obtain rfl : i = 0 := by simp only [List.length_cons, List.length_nil] at hi; omega
    simp [go_sem]
  · obtain rfl : i = 0 := by simp only [List.length_cons, List.length_nil] at hi; omega
    exact hA.bel hb
theorem blk2 {W : World} {k : Int} {a1 a2 a3 a4 b1 b2 b3 b4 : Value} {a b : Cd} (ha : VIn W (.agg #[a1, a2, a3, a4]) a) (hb : VIn W (.agg #[b1, b2, b3, b4]) b) :
    VIn (W.alloc (.cells #[a1, a2, a3, a4, b1, b2, b3, b4] 40)) (.agg #[.int .i64 k, .int .i64 0, .int .i64 0, .slice (some ⟨W.heap.size, 0, none⟩) 2 2]) (joinC k [a, b]) := by
  obtain ⟨p, c, rfl, rfl, rfl, rfl, hA⟩ := ha.parts
  obtain ⟨p', c', rfl, rfl, rfl, rfl, hB⟩ := hb.parts
  have hb := (Below.refl W.heap.size W).alloc (Nat.le_refl _) (.cells #[.int .i64 a.k, .int .i64 a.v, .int .i64 a.n, .slice p a.ps.length c, .int .i64 b.k, .int .i64 b.v, .int .i64 b.n, .slice p' b.ps.length c'] 40)
  refine ⟨_, 2, rfl, blkIn k [(a, p, c), (b, p', c')] (by simp) (by simp) (by simp) (fun i hi => ?_) (fun i hi => ?_)⟩
  · have : i = 0 ∨ i = 1 := by simp only [List.length_cons, List.length_nil] at hi; omega
    rcases this with rfl | rfl <;> simp [go_sem]
  · have : i = 0 ∨ i = 1 := by simp only [List.length_cons, List.length_nil] at hi; omega
    rcases this with rfl | rfl
    · exact hA.bel hb
    · exact hB.bel hb
theorem blk3 {W : World} {k : Int} {a1 a2 a3 a4 b1 b2 b3 b4 d1 d2 d3 d4 : Value} {a b d : Cd} (ha : VIn W (.agg #[a1, a2, a3, a4]) a) (hb : VIn W (.agg #[b1, b2, b3, b4]) b) (hd : VIn W (.agg #[d1, d2, d3, d4]) d) :
    VIn (W.alloc (.cells #[a1, a2, a3, a4, b1, b2, b3, b4, d1, d2, d3, d4] 40)) (.agg #[.int .i64 k, .int .i64 0, .int .i64 0, .slice (some ⟨W.heap.size, 0, none⟩) 3 3]) (joinC k [a, b, d]) := by
  obtain ⟨p, c, rfl, rfl, rfl, rfl, hA⟩ := ha.parts
  obtain ⟨p', c', rfl, rfl, rfl, rfl, hB⟩ := hb.parts
  obtain ⟨p'', c'', rfl, rfl, rfl, rfl, hD⟩ := hd.parts
  have hb := (Below.refl W.heap.size W).alloc (Nat.le_refl _) (.cells #[.int .i64 a.k, .int .i64 a.v, .int .i64 a.n, .slice p a.ps.length c, .int .i64 b.k, .int .i64 b.v, .int .i64 b.n, .slice p' b.ps.length c', .int .i64 d.k, .int .i64 d.v, .int .i64 d.n, .slice p'' d.ps.length c''] 40)
  refine ⟨_, 3, rfl, blkIn k [(a, p, c), (b, p', c'), (d, p'', c'')] (by simp) (by simp) (by simp) (fun i hi => ?_) (fun i hi => ?_)⟩
  · have : i = 0 ∨ i = 1 ∨ i = 2 := by simp only [List.length_cons, List.length_nil] at hi; omega
    rcases this with rfl | rfl | rfl <;> simp [go_sem]
  · have : i = 0 ∨ i = 1 ∨ i = 2 := by simp only [List.length_cons, List.length_nil] at hi; omega
    rcases this with rfl | rfl | rfl
    · exact hA.bel hb
    · exact hB.bel hb
    · exact hD.bel hb
set_option maxHeartbeats 1000000 in
theorem not_V {w : World} {v : Value} {c : Cd} (h : VIn w v c) : Calls Tryz.prog 28 #[v] w fun e w' => ∃ g, e = .returned (.agg #[.int .i64 4, .int .i64 0, .int .i64 0, .slice (some ⟨g, 0, none⟩) 1 1]) ∧ VIn w' (.agg #[.int .i64 4, .int .i64 0, .int .i64 0, .slice (some ⟨g, 0, none⟩) 1 1]) (notC c) ∧ Below w.heap.size w w' := by
  obtain ⟨p, cap, rfl, h2⟩ := h
  have hB1 := (Below.refl w.heap.size w).alloc (Nat.le_refl _) (.cells #[.int .i64 c.k, .int .i64 c.v, .int .i64 c.n, .slice p c.ps.length cap] 40)
  have hB2 := balloc hB1 (.cells #[.int .i64 4, .int .i64 0, .int .i64 0, .slice (some ⟨w.heap.size + 2, 0, none⟩) 1 1] 40)
  have HV : Hid (∀ s, VIn ((((w.alloc (.cells #[.int .i64 c.k, .int .i64 c.v, .int .i64 c.n, .slice p c.ps.length cap] 40)).alloc s)).alloc (.cells #[.int .i64 c.k, .int .i64 c.v, .int .i64 c.n, .slice p c.ps.length cap] 40)) (.agg #[.int .i64 4, .int .i64 0, .int .i64 0, .slice (some ⟨((w.alloc (.cells #[.int .i64 c.k, .int .i64 c.v, .int .i64 c.n, .slice p c.ps.length cap] 40)).alloc s).heap.size, 0, none⟩) 1 1]) (notC c)) := Lib.hid fun s => blk1 (k := 4) ⟨p, cap, rfl, (h2.bel hB1).bel (balloc (Below.refl _ _) _)⟩
  have HB := Lib.hid (balloc hB2 (.cells #[.int .i64 c.k, .int .i64 c.v, .int .i64 c.n, .slice p c.ps.length cap] 40))
  clear h2 hB1 hB2
  unfold cV
  go_enter Tryz.func28, Tryz.ntmps28
  go_wp2_with fail
  refine bodyPost_ret (v := .agg #[.int .i64 4, .int .i64 0, .int .i64 0, .slice (some ⟨w.heap.size + 2, 0, none⟩) 1 1]) ?_ rfl ?_
  · simp [results, Tryz.results28, go_sem]
  · refine ⟨w.heap.size + 2, rfl, ?_, HB.out⟩
    have := HV.out (.cells #[.int .i64 4, .int .i64 0, .int .i64 0, .slice (some ⟨w.heap.size + 2, 0, none⟩) 1 1] 40)
    simpa using this
set_option maxHeartbeats 1000000 in
theorem holds_V {w : World} {v : Value} {c : Cd} (h : VIn w v c) (x : En) : Calls Tryz.prog 30 #[v, envV x] w fun e w' => e = .returned (.bool (holdB c x)) ∧ Below w.heap.size w w' := by
  obtain ⟨p, cap, rfl, h2⟩ := h
  have hB1 := balloc (balloc (Below.refl w.heap.size w) (.cells #[.int .i64 c.k, .int .i64 c.v, .int .i64 c.n, .slice p c.ps.length cap] 40)) (.cells #[.int .i64 x.d, .int .i64 x.f, .int .i64 x.s] 42)
  have HB := Lib.hid hB1
  have HC := Lib.hid (tHolds_any (h2.bel hB1) x)
  clear h2 hB1
  unfold holdB
  unfold cV envV at *
  generalize holdsR c x = r at *
  obtain ⟨r1, r2⟩ := r
  simp only at *
  go_enter Tryz.func30, Tryz.ntmps30
  by_cases hr : r2 = 0
  · subst hr
    go_wp2_with (go_at_call 24; (with_reducible refine HC.out.mono ?_); rintro e w1 ⟨rfl, hb⟩; have HB1 := Lib.hid (HB.out.trans (hb.mono HB.out.size)); clear hb)
    go_ret
    exact ⟨rfl, HB1.out⟩
  · have hb0 : (r2 == 0) = false := by simpa using hr
    go_wp2_with (go_at_call 24; (with_reducible refine HC.out.mono ?_); rintro e w1 ⟨rfl, hb⟩; have HB1 := Lib.hid (HB.out.trans (hb.mono HB.out.size)); clear hb)
    go_ret
    rw [hb0]
    exact ⟨rfl, HB1.out⟩
theorem holds_W {w : World} {v : Value} {c : Cd} (h : VIn w v c) (x1 x2 x3 : Int) : Calls Tryz.prog 30 #[v, .agg #[.int .i64 x1, .int .i64 x2, .int .i64 x3]] w fun e w' => e = .returned (.bool (holdB c ⟨x1, x2, x3⟩)) ∧ Below w.heap.size w w' := holds_V h ⟨x1, x2, x3⟩
end Go.Proofs.YtabdgnigmlpeaaaGreatDoor
