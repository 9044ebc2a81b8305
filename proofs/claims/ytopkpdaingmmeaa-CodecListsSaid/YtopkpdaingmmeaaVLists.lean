/- CodecLists: the list of values, and of zeros; two rows of the call's own beside each other. -/
import Derived.Test.YtopkpdaingmmeaaVLaw
import Derived.Test.YtopkpdaingmmeaaVRow
import Derived.Test.YtopkpdaingmmeaaVRefNum
import Derived.Deep.AppendLies
import Derived.Deep.QuietTactic
import Derived.BigQuiet
namespace Go.Proofs.Ytopkpdaingmmeaa
open Go.RowKit

def LV (l : List V) : V := .mk 3 0 ⟨#[]⟩ l
def zeroV : V := .mk 1 0 ⟨#[]⟩ []
theorem enc_LV (l : List V) : enc (LV l) = 3 :: (num l.length ++ encL l) := by
  unfold LV; rw [enc, if_neg (by decide), if_neg (by decide)]
theorem enc_zeroV : enc zeroV = [1, 0] := by
  unfold zeroV; rw [enc, if_pos rfl, show uns 0 = 0 from rfl, num_lt (by decide)]; rfl
theorem encL_zeros (n : Nat) : (encL (List.replicate n zeroV)).length = 2 * n := by
  induction n with
  | zero => simp [encL]
  | succ n ih => rw [List.replicate_succ, encL, List.length_append, ih, enc_zeroV]; simp; omega
theorem errV_zero_iff (v : V) : errV v = 0 ↔ formed v = true ∧ depth v ≤ 16 := by
  unfold errV
  split
  · next h => split
              · next h2 => simp [h, h2]
              · next h2 => simp [h2]
  · next h => simp [h]
theorem depth_LV (l : List V) : depth (LV l) = 1 + depthL l := by unfold LV; rw [depth, if_pos rfl]
theorem errLV_bad {l : List V} {x : V} (hx : x ∈ l) (h : errV x ≠ 0) : errV (LV l) ≠ 0 := by
  intro h0
  obtain ⟨h1, h2⟩ := (errV_zero_iff _).1 h0
  refine h ((errV_zero_iff _).2 ⟨((formed_list _ _ _).1 h1).2.2 x hx, ?_⟩)
  rw [depth_LV] at h2
  have := (depthL_le l (depthL l)).1 (Nat.le_refl _) x hx
  omega
theorem errLV_good {l : List V} (h : ∀ x ∈ l, errV x = 0) : errV (LV l) = 0 ∨ errV (LV l) = 2 := by
  have hf : formed (LV l) = true := (formed_list _ _ _).2 ⟨rfl, rfl, fun x hx => ((errV_zero_iff _).1 (h x hx)).1⟩
  unfold errV
  rw [if_pos hf]
  split
  · exact .inl rfl
  · exact .inr rfl
theorem rank_LV {l : List V} {n : Nat} (h : ∀ x ∈ l, rank x ≤ n) : rank (LV l) ≤ n + 1 := by
  unfold LV; rw [rank_mk]
  have := rankL_le l n h
  omega
theorem encL_leN {l : List V} {n : Nat} (h : ∀ x ∈ l, (enc x).length ≤ n) : (encL l).length ≤ n * l.length := by
  induction l with
  | nil => simp [encL]
  | cons a l ih =>
    rw [encL, List.length_append, List.length_cons, Nat.mul_succ]
    have h1 := ih fun x hx => h x (List.mem_cons_of_mem _ hx)
    have h2 := h a (List.mem_cons_self ..)
    omega
theorem good_zeros (n : Nat) (hn : n ≤ 20) : Good 16 (LV (List.replicate n zeroV)) := by
  have hz : formed zeroV = true := (formed_int _ _ _).2 ⟨rfl, rfl⟩
  have hd : depth zeroV = 0 := by unfold zeroV; rw [depth, if_neg (by decide)]
  refine ⟨(formed_list _ _ _).2 ⟨rfl, rfl, fun x hx => by rw [List.eq_of_mem_replicate hx]; exact hz⟩, ?_, ?_⟩
  · rw [depth_LV]
    have : depthL (List.replicate n zeroV) ≤ 0 := (depthL_le _ _).2 fun x hx => by rw [List.eq_of_mem_replicate hx, hd]; exact Nat.le_refl _
    omega
  · have hfz : Fits zeroV := by unfold zeroV; simp only [Fits, FitsL, Fit64]; decide
    have : ∀ n, FitsL (List.replicate n zeroV) := fun n => by
      induction n with
      | zero => simp [FitsL]
      | succ n ih => rw [List.replicate_succ, FitsL]; exact ⟨hfz, ih⟩
    unfold LV
    rw [Fits]
    exact ⟨by unfold Fit64; omega, by decide, by rw [List.length_replicate]; omega, this n⟩

theorem ownsRow_grown {w w' : World} {base : Nat} {e : TypeId} {size : Nat} {v : Value} {n : Nat} {xs : List Value} {r : Option Nat} (h : w.ownsRow base e size v n xs) (hg : w.grownBy w' r) (hne : v.ownBlock = none ∨ v.ownBlock ≠ r) : w'.ownsRow base e size v n xs := by
  refine ⟨h.1, h.2.imp id ?_⟩
  rintro ⟨g, cap, cur, rfl, a, b, c⟩
  refine ⟨g, cap, cur, rfl, a, ?_, c⟩
  rw [hg.block g ((Array.getElem?_eq_some_iff.1 b).1) (fun e => hne.elim (fun h => by cases h) (fun h => h e))]
  exact b
abbrev zeroE : El := (zeroV, none, 0)
/-- The row v is the call's own and holds n zeros. -/
def Zs (w : World) (B : Nat) (v : Value) (n : Nat) : Prop := w.ownsRow B 24 4 v n (flatE (List.replicate n zeroE))
theorem Zs.ownE {w : World} {B : Nat} {v : Value} {n : Nat} (h : Zs w B v n) : OwnE w B v (List.replicate n zeroE) :=
  ⟨by rw [List.length_replicate]; exact h, fun e he => by rw [List.eq_of_mem_replicate he]; exact VIn.leaf (by unfold Fit64; omega) (by unfold Fit64; omega) (by decide)⟩
theorem Zs.nil (w : World) (B : Nat) : Zs w B (.slice none 0 0) 0 := World.ownsRow_nil w B _ _
theorem Zs.step {w : World} {B : Nat} {v : Value} {n : Nat} (h : OwnE w B v (List.replicate n zeroE ++ [zeroE])) : Zs w B v (n + 1) := by
  have e : List.replicate n zeroE ++ [zeroE] = List.replicate (n + 1) zeroE := by rw [List.replicate_succ']
  have := h.own
  rw [e, List.length_replicate] at this
  exact this
theorem Zs.bel {w w' : World} {B m : Nat} {v : Value} {n : Nat} (h : Zs w B v n) (hb : Below m w w') (hm : w.heap.size ≤ m) : Zs w' B v n := by
  refine ⟨h.1, h.2.imp id ?_⟩
  rintro ⟨g, cap, cur, a, b, c, d⟩
  exact ⟨g, cap, cur, a, b, by rw [hb.block g (by have := (Array.getElem?_eq_some_iff.1 c).1; omega)]; exact c, d⟩
theorem Zs.list {w : World} {B : Nat} {v : Value} {n : Nat} (h : Zs w B v n) (hn : n ≤ 20) : ∃ p cap, v = .slice p n cap ∧ VAt w 0 (LV (List.replicate n zeroV)) p cap := by
  obtain ⟨p, cap, e, hv⟩ := h.ownE.reads (by rw [List.length_replicate]; omega) (k := 3) (n := 0) (s := ⟨#[]⟩) (by unfold Fit64; omega) (by unfold Fit64; omega) (by decide)
  rw [List.length_replicate] at e
  refine ⟨p, cap, e, ?_⟩
  rw [List.map_replicate] at hv
  exact hv.at (fun _ _ => Nat.zero_le _)

theorem rows_ne {w : World} {lo B n : Nat} {v v' : Value} {bs : List UInt8} (hr : Row w lo v bs) (hz : Zs w B v' n) : v.ownBlock = none ∨ v.ownBlock ≠ v'.ownBlock := by
  rcases hr.2 with ⟨rfl, _⟩ | ⟨g, cap, cur, rfl, _, hg, _⟩
  · left; rfl
  · right; intro e
    rcases hz.2 with ⟨rfl, _⟩ | ⟨g', cap', cur', rfl, _, hg', _⟩
    · cases e
    · obtain rfl : g = g' := by simpa [Value.ownBlock] using e
      rw [hg] at hg'; cases hg'
theorem ne_turn {a b : Option Nat} (h : a = none ∨ a ≠ b) : b = none ∨ b ≠ a := by
  rcases h with rfl | h
  · cases b with
    | none => exact .inl rfl
    | some b => exact .inr (by simp)
  · exact .inr fun e => h e.symm
theorem BAt.take {w : World} {B : Nat} {p : Option Addr} {l : List UInt8} (h : BAt w B p l) (m : Nat) : BAt w B p (l.take m) := by
  refine ⟨by have := h.len; rw [List.length_take]; omega, fun hne => ?_⟩
  obtain ⟨b, off, e, h1, h2, hc⟩ := h.at' (by rintro rfl; simp at hne)
  exact ⟨b, off, e, h1, h2, fun i hi => by rw [List.getElem_take]; exact hc i (by rw [List.length_take] at hi; omega)⟩
theorem BAt.drop {w : World} {B : Nat} {b off : Nat} {l : List UInt8} (h : BAt w B (some ⟨b, off, none⟩) l) (m : Nat) : BAt w B (some ⟨b, off + m, none⟩) (l.drop m) := by
  refine ⟨by have := h.len; rw [List.length_drop]; omega, fun hne => ?_⟩
  obtain ⟨b', off', e, h1, h2, hc⟩ := h.at' (by rintro rfl; simp at hne)
  simp only [Option.some.injEq, Addr.mk.injEq, and_true] at e
  obtain ⟨rfl, rfl⟩ := e
  refine ⟨b, off + m, rfl, h1, h2, fun i hi => ?_⟩
  rw [List.length_drop] at hi
  rw [List.getElem_drop, Nat.add_assoc]
  exact hc (m + i) (by omega)
theorem BAt.drewN {w : World} {B : Nat} {p : Option Addr} {l : List UInt8} (h : BAt w B p l) (j : Nat) : BAt (w.drewN j) B p l := h.below (below_drewN (Below.refl _ w) j)

theorem Row.reads' {w : World} {lo : Nat} {v : Value} {bs : List UInt8} (h : Row w lo v bs) (hl : bs.length ≤ 140737488351232) :
    ∃ q m c, v = .slice q m c ∧ BAt w lo q bs ∧ m = bs.length := by
  rcases h.2 with ⟨rfl, hn⟩ | ⟨g, cap, cur, rfl, hB, hg, hc, hm, hs, ht⟩
  · obtain rfl : bs = [] := List.length_eq_zero_iff.1 hn
    exact ⟨none, 0, 0, rfl, BAt.nil, rfl⟩
  · refine ⟨_, _, cap, rfl, ⟨hl, fun _ => ⟨g, 0, rfl, hB, (Array.getElem?_eq_some_iff.1 hg).1, fun i hi => ?_⟩⟩, rfl⟩
    rw [cell_of_row w g _ cur _ (0, 0) hg, Nat.zero_add]
    have hfl : (bs.map bv)[i]? = some (.int .u8 bs[i].toNat) := by rw [List.getElem?_map, List.getElem?_eq_getElem hi]; rfl
    rw [← ht, List.getElem?_take] at hfl
    split at hfl
    · simpa using hfl
    · cases hfl

/-- append(s, x...): a row of bytes behind one of the call's own. -/
theorem wpList_appB {ops : Array Oper} {rest : List Oper} {o : Oper} {a : Act} {w : World} {Q : Exit → Act → World → Prop} (hgd : o.guard = none) (s x : Operand)
    (ho : o.op = .call { callee := .builtin .append, args := #[s, x], argTypes := #[27, 27] })
    (lo : Nat) (v : Value) (bs : List UInt8) (hrow : Row w lo v bs) (hs : a.eval s = v) (B : Nat) (q : Option Addr) (cs : List UInt8) (hsrc : BAt w B q cs) (m c : Nat) (hm : cs.length = m) (hx : a.eval x = .slice q m c) (hcs : 0 < cs.length)
    (hn : bs.length + cs.length ≤ 10000000000000) (hlo : lo ≤ w.heap.size)
    (h : ∀ g cap w', Row w' lo (.slice (some ⟨g, 0, none⟩) (bs ++ cs).length cap) (bs ++ cs) → w.grownBy w' v.ownBlock → (v.ownBlock = some g ∨ w.heap.size ≤ g) → wpList Try.prog ops Q rest (a.put o.dst (.slice (some ⟨g, 0, none⟩) (bs ++ cs).length cap)) w') :
    wpList Try.prog ops Q (o :: rest) a w := by
  obtain ⟨i0, hi, hz0, hz1, hz2⟩ := info_parts Try.infoU8
  subst hm
  obtain ⟨b, off, rfl, _, hbl, hc⟩ := hsrc.at' (by rintro rfl; simp at hcs)
  refine wpList_append_lies _ hgd s x 27 ho lo 5 i0 _ 1 1 Try.underlying27 hi hz0 hz1 hz2 rfl (by decide) v bs.length (bs.map bv) hs hrow ⟨b, off, none⟩ cs.length c (cs.map bv) hx (by simp) ?_ (by simp [Value.oneCell', bv]) hcs (by unfold maxLen; omega) (by omega) hlo w.heap.size rfl ?_
  · intro j u hj
    have hjl : j < cs.length := by have := (List.getElem?_eq_some_iff.1 hj).1; simpa using this
    have e : (⟨b, off, none⟩ : Addr).add j = ⟨b, off + j, none⟩ := by unfold Addr.add; split <;> simp_all
    rw [e, hc j hjl]
    rw [List.getElem?_map, List.getElem?_eq_getElem hjl] at hj
    exact hj
  intro g cap w' hown hg hat _
  rw [← List.length_append] at hown
  refine (by rw [← List.length_append]; exact h g cap w' (by unfold Row; rw [List.map_append]; exact hown) hg (hat.imp id fun e => by omega))
end Go.Proofs.Ytopkpdaingmmeaa
