/- A row of numbers that the call itself makes; slices.Contains; follows. -/
import Derived.Test.YtabdgnigmlpeaaaGreatDoorTReadS
import Derived.Test.YtabdgnigmlpeaaaGreatDoorTHolds
namespace Go.Proofs.YtabdgnigmlpeaaaGreatDoor
open Go.RowKit

mutual
/-- How many criteria are named. -/
def nF : Fm → Nat
  | .crit _ => 1
  | .bran _ th el => nFs th + nFs el
  | .atl _ _ => 0
  | .all _ => 0
  | .one _ => 0
  | .neg _ => 0
  | .mis => 0
def nFs : List Fm → Nat
  | [] => 0
  | f :: l => nF f + nFs l
end
mutual
/-- The form of a valid step. -/
def stepF : Fm → Bool
  | .crit _ => true
  | .bran c th el => rngF c && (stepFs th && stepFs el)
  | .atl _ _ => false
  | .all _ => false
  | .one _ => false
  | .neg _ => false
  | .mis => false
def stepFs : List Fm → Bool
  | [] => true
  | f :: l => stepF f && stepFs l
end
mutual
theorem appF_len (x : En) : ∀ (f : Fm) (b : List Int), (appF x b f).length ≤ b.length + nF f
  | .crit n, b => by rw [appF, nF]; split <;> simp
  | .bran c th el, b => by
    rw [appF, nF]
    have h1 := appFs_len x th b
    have h2 := appFs_len x el b
    split <;> omega
  | .atl _ _, b => by rw [appF, nF] <;> simp
  | .all _, b => by rw [appF, nF] <;> simp
  | .one _, b => by rw [appF, nF] <;> simp
  | .neg _, b => by rw [appF, nF] <;> simp
  | .mis, b => by rw [appF, nF] <;> simp
theorem appFs_len (x : En) : ∀ (l : List Fm) (b : List Int), (appFs x b l).length ≤ b.length + nFs l
  | [], b => by rw [appFs, nFs]; simp
  | f :: l, b => by
    rw [appFs, nFs]
    have h1 := appF_len x f b
    have h2 := appFs_len x l (appF x b f)
    omega
end
mutual
theorem nF_formS : ∀ s : St, nF (formS s) ≤ szS s
  | .mk k b c th el => by
    have h1 := nFs_formSs th
    have h2 := nFs_formSs el
    rw [formS, szS]
    split
    · rw [nF]; omega
    · split
      · rw [nF]; omega
      · rw [nF]; omega
theorem nFs_formSs : ∀ l : List St, nFs (formSs l) ≤ szSs l
  | [] => by rw [formSs, nFs, szSs]; exact Nat.le_refl _
  | s :: l => by rw [formSs, nFs, szSs]; have := nF_formS s; have := nFs_formSs l; omega
end
mutual
theorem stepF_formS : ∀ s : St, rngF (formS s) = true → stepF (formS s) = true
  | .mk k b c th el, h => by
    rw [formS] at h ⊢
    split at h
    · rename_i h1; rw [if_pos h1, stepF]
    · rename_i h1
      rw [if_neg h1]
      split at h
      · rename_i h2
        rw [if_pos h2, stepF]
        rw [rngF, Bool.and_eq_true, Bool.and_eq_true, Bool.and_eq_true] at h
        rw [h.1.1, stepFs_formSs th h.1.2.2, stepFs_formSs el h.2]
        rfl
      · rw [rngF] at h; cases h
theorem stepFs_formSs : ∀ l : List St, rngFs (formSs l) = true → stepFs (formSs l) = true
  | [], _ => by rw [formSs, stepFs]
  | s :: l, h => by
    rw [formSs, rngFs, Bool.and_eq_true] at h
    rw [formSs, stepFs, stepF_formS s h.1, stepFs_formSs l h.2]
    rfl
end
theorem appFs_append (x : En) : ∀ (a b : List Fm) (l : List Int), appFs x l (a ++ b) = appFs x (appFs x l a) b
  | [], b, l => by rw [List.nil_append, appFs]
  | f :: a, b, l => by rw [List.cons_append, appFs, appFs, appFs_append x a b]
theorem appFs_take (x : En) (fs : List Fm) (l : List Int) (j : Nat) (h : j < fs.length) : appFs x l (fs.take (j + 1)) = appF x (appFs x l (fs.take j)) fs[j] := by
  rw [List.take_succ_eq_append_getElem h, appFs_append, appFs, appFs]
theorem nFs_take (fs : List Fm) (j : Nat) (h : j < fs.length) : nFs (fs.take j) + nF fs[j] ≤ nFs fs := by
  have ha : ∀ a b : List Fm, nFs (a ++ b) = nFs a + nFs b := fun a b => by
    induction a with
    | nil => rw [List.nil_append, nFs]; omega
    | cons f a ih => rw [List.cons_append, nFs, nFs, ih]; omega
  have := congrArg nFs (List.take_append_drop (j + 1) fs)
  rw [ha, List.take_succ_eq_append_getElem h, ha, nFs, nFs] at this
  omega
theorem stepFs_get : ∀ (l : List Fm) (i : Nat) (h : i < l.length), stepFs l = true → stepF l[i] = true
  | [], i, h, _ => absurd h (by simp)
  | f :: l, 0, _, hs => by rw [stepFs, Bool.and_eq_true] at hs; exact hs.1
  | f :: l, i + 1, h, hs => by rw [stepFs, Bool.and_eq_true] at hs; exact stepFs_get l i (by simpa using h) hs.2

def rowV (l : List Int) : List Value := l.map (Value.int .i64)
theorem Tryz.infoI : (Tryz.prog.info? 3).map (fun i => (i.zero, i.size, i.bytes)) = some (some (.int .i64 0), 1, 8) := by kernel_rfl
/-- The row val is the call's own, from block B on, and holds the numbers l. -/
def OwnI (w : World) (B : Nat) (val : Value) (l : List Int) : Prop := w.ownsRow B 3 1 val l.length (rowV l)
theorem OwnI.lt {w : World} {B : Nat} {val : Value} {l : List Int} (h : OwnI w B val l) : ∀ k, val.ownBlock = some k → B ≤ k ∧ k < w.heap.size := World.ownsRow.lt h
theorem OwnI.bel {w w' : World} {B : Nat} {val : Value} {l : List Int} (h : OwnI w B val l) (hb : Below w.heap.size w w') : OwnI w' B val l := by
  refine ⟨h.1, h.2.imp id ?_⟩
  rintro ⟨g, cap, cur, rfl, a, b, c⟩
  exact ⟨g, cap, cur, rfl, a, by rw [hb.block g ((Array.getElem?_eq_some_iff.1 b).1)]; exact b, c⟩
/-- What the row is as a value. -/
theorem OwnI.reads {w : World} {B : Nat} {val : Value} {l : List Int} (h : OwnI w B val l) (hl : l.length ≤ 1000000) :
    ∃ p cap b, val = .slice p l.length cap ∧ (l ≠ [] → p = some ⟨b, 0, none⟩) ∧ (∀ i (h : i < l.length), w.cell? ⟨b, i, none⟩ = some (.int .i64 l[i])) ∧ l.length ≤ cap ∧ cap ≤ 9223372036854775807 := by
  rcases h.2 with ⟨hv, hn0⟩ | ⟨g, cap, cur, hv, hB, hg, hc, hm, hsz, ht⟩
  · obtain rfl : l = [] := List.length_eq_zero_iff.1 hn0
    exact ⟨none, 0, 0, hv, fun h => absurd rfl h, fun i h => by simp at h, by simp, by simp⟩
  · refine ⟨_, cap, g, hv, fun _ => rfl, fun i hi => ?_, hc, by unfold maxLen at hm; omega⟩
    rw [cell_of_row w g i cur _ (0, 0) hg]
    have hu : (rowV l)[i]? = some (.int .i64 l[i]) := by simp [rowV, hi]
    rw [← ht, List.getElem?_take] at hu
    split at hu
    · simpa using hu
    · cases hu
theorem wpList_pushI {ops : Array Oper} {rest : List Oper} {o : Oper} {a : Act} {w : World} {K : Exit → Act → World → Prop} (hgd : o.guard = none) (s x : Operand)
    (ho : o.op = .call { callee := .builtin .append, args := #[s, x], argTypes := #[49, 49] })
    (B : Nat) (val : Value) (l : List Int) (hown : OwnI w B val l) (hs : a.eval s = val) (n : Int) (c H : Nat) (hH : w.heap.size = H) (hx : a.eval x = .slice (some ⟨H, 0, none⟩) 1 c) (hn : l.length ≤ 1000000) (hB : B ≤ w.heap.size)
    (h : ∀ g cap' w', OwnI w' B (.slice (some ⟨g, 0, none⟩) (l.length + 1) cap') (l ++ [n]) → w.grownBy w' val.ownBlock → (val.ownBlock = some g ∨ w.heap.size ≤ g) → wpList Tryz.prog ops K rest (a.put o.dst (.slice (some ⟨g, 0, none⟩) (l.length + 1) cap')) w') :
    wpList Tryz.prog ops K (o :: rest) a (w.alloc (.cells #[.int .i64 n] 3)) := by
  subst hH
  obtain ⟨i0, hi, hz0, hz1, hz2⟩ := info_parts Tryz.infoI
  have hcells : ∀ j u, ([.int .i64 n] : List Value)[j]? = some u → (w.alloc (.cells #[.int .i64 n] 3)).cell? ((⟨w.heap.size, 0, none⟩ : Addr).add j) = some u := by
    intro j u hj
    match j, hj with
    | 0, hj => simp at hj; subst hj; simp [Addr.add]
    | j + 1, hj => simp at hj
  refine wpList_append_lies _ hgd s x 49 ho B 3 i0 _ 1 8 Tryz.underlying49 hi hz0 hz1 hz2 rfl (by decide) val l.length (rowV l) hs (World.ownsRow.alloc hown _) ⟨w.heap.size, 0, none⟩ 1 c _ hx rfl hcells (by simp [Value.oneCell']) (by decide) (by unfold maxLen; omega) (by omega) (by simp; omega) (w.heap.size + 1) (by simp) ?_
  intro g cap' w' hown' hg hat hlt
  have hg' : w.grownBy w' val.ownBlock := by
    refine ⟨hg.os, hg.tape, hg.output, by have := hg.size; simp at this; omega, fun k hk hne => ?_⟩
    exact (hg.block k (by simp; omega) hne).trans (by rw [((Below.refl w.heap.size w).alloc (Nat.le_refl _) _).block k hk])
  refine h g cap' w' ?_ hg' (hat.imp id fun h => by omega)
  unfold OwnI
  rw [List.length_append]
  have : rowV (l ++ [n]) = rowV l ++ [.int .i64 n] := by simp [rowV]
  rw [this]
  exact hown'

set_option maxHeartbeats 2000000 in
theorem indexI_any (l : List Int) (n : Int) (p : Option Addr) (b cap : Nat) (w : World) (hl : l.length ≤ 1000000) (hp : l ≠ [] → p = some ⟨b, 0, none⟩) (hc : ∀ i (h : i < l.length), w.cell? ⟨b, i, none⟩ = some (.int .i64 l[i])) :
    Calls Tryz.prog 178 #[.slice p l.length cap, .int .i64 n] w fun e w' => FoundS (l.contains n) e ∧ w' = w := by
  have HC := Lib.hid hc
  have HP := Lib.hid hp
  have H0 : Hid (l.contains n = (l.drop 0).contains n) := Lib.hid (by rw [List.drop_zero])
  clear hc hp
  obtain ⟨T, hT⟩ : ∃ T, l.contains n = T := ⟨_, rfl⟩
  rw [hT] at H0 ⊢
  clear hT
  go_enter Tryz.func178, Tryz.ntmps178
  go_wp2_with fail
  go_loopw [5, 8] (fun _ v wr => ∃ j : Nat, j ≤ l.length ∧ v = .int .i64 j ∧ Hid (T = (l.drop j).contains n) ∧ Hid (wr = w)) (fun _ v _ => l.length - (intOf v).toNat)
  case atStart => exact ⟨0, Nat.zero_le _, rfl, H0, Lib.hid rfl⟩
  case round =>
    obtain ⟨j, hj, rfl, HI, HW⟩ := hrel
    obtain rfl := HW.out
    clear H0 HW
    by_cases hlt : j < l.length
    · have hji : (j : Int) < (l.length : Int) := by omega
      obtain rfl := HP.out (by rintro rfl; simp at hlt)
      have y0 := HC.out j hlt
      have hd := (List.getElem_cons_drop hlt).symm
      by_cases he : n = l[j]
      · have hb : (n == l[j]) = true := by simpa using he
        have hT : T = true := by rw [HI.out, hd, List.contains_cons, hb]; rfl
        subst hT
        clear HI HC HP hd he
        generalize l[j] = y at *
        go_wp2_with fail
        go_ret
        exact ⟨⟨j, rfl, by simp⟩, rfl⟩
      · have hb : (n == l[j]) = false := by simpa using he
        have HI2 : Hid (T = (l.drop (j + 1)).contains n) := Lib.hid (by rw [HI.out, hd, List.contains_cons, hb]; rfl)
        clear HI HC HP hd he
        generalize l[j] = y at *
        go_wp2_with fail
        go_round
        case rel => exact ⟨j + 1, by omega, by go_num, HI2, Lib.hid (by trivial)⟩
        case measure => simp [intOf]; omega
    · have hji : ¬ (j : Int) < (l.length : Int) := by omega
      have hT : T = false := by rw [HI.out, List.drop_of_length_le (by omega)]; rfl
      subst hT
      clear HI HC HP
      go_wp2_with fail
      go_ret
      exact ⟨⟨-1, rfl, by simp⟩, rfl⟩
theorem containsI_any (l : List Int) (n : Int) (p : Option Addr) (b cap : Nat) (w : World) (hl : l.length ≤ 1000000) (hp : l ≠ [] → p = some ⟨b, 0, none⟩) (hc : ∀ i (h : i < l.length), w.cell? ⟨b, i, none⟩ = some (.int .i64 l[i])) :
    Calls Tryz.prog 114 #[.slice p l.length cap, .int .i64 n] w fun e w' => e = .returned (.bool (l.contains n)) ∧ w' = w := by
  have H := Lib.hid (indexI_any l n p b cap w hl hp hc)
  clear hp hc hl
  generalize l.contains n = q at *
  generalize l.length = m at *
  go_enter Tryz.func114, Tryz.ntmps114
  go_wp2_with (go_at_call 178; (with_reducible refine H.out.mono ?_); rintro e w1 ⟨⟨r, rfl, h⟩, rfl⟩; have H1 := Lib.hid h; clear h)
  all_goals
    go_ret
    exact ⟨ret_bool (by first | exact H1.out | (rw [← H1.out]; simp; try omega)), rfl⟩

set_option maxHeartbeats 4000000 in
set_option maxRecDepth 100000 in
theorem follows_any (c : Fm) (y : Value) (p p2 : Option Addr) (n n2 cap cap2 : Nat) (x : En) (W : World) (Q : Nat → Prop) (hr : rngF c = true) (hy : FmIn W Q c y) :
    Calls Tryz.prog 115 #[.agg #[y, .slice p n cap, .slice p2 n2 cap2], envV x] W fun e w' => e = .returned (if holdF x c = true then .slice p n cap else .slice p2 n2 cap2) ∧ Below W.heap.size W w' := by
  obtain ⟨t, v, rfl⟩ := hy.iface
  have hA := (Below.refl W.heap.size W).alloc (Nat.le_refl _) (.cells #[.iface t v, .slice p n cap, .slice p2 n2 cap2] 169)
  have hA2 := hA.alloc hA.size (.cells #[.int .i64 x.d, .int .i64 x.f, .int .i64 x.s] 42)
  have H := Lib.hid (hold_any x Q c _ _ hr (hy.bel hA2))
  have HA := Lib.hid hA2
  clear hr hy hA hA2
  unfold envV at *
  generalize holdF x c = q at *
  obtain ⟨d, f, s⟩ := x
  simp only at *
  cases q
  all_goals
    simp only [Bool.false_eq_true, if_false, if_true]
    go_enter Tryz.func115, Tryz.ntmps115
    go_wp2_with fail
    go_at_call 54
    (with_reducible refine H.out.mono ?_)
    rintro e w1 ⟨rfl, hb⟩
    have HB := Lib.hid (HA.out.trans (hb.mono HA.out.size))
    have c1 : w1.cell? ⟨W.heap.size, 1, none⟩ = some (.slice p n cap) := keepc hb (by simp [go_sem])
    have c2 : w1.cell? ⟨W.heap.size, 2, none⟩ = some (.slice p2 n2 cap2) := keepc hb (by simp [go_sem])
    clear hb
    go_wp2_with fail
    go_ret
    exact ⟨rfl, HB.out⟩
end Go.Proofs.YtabdgnigmlpeaaaGreatDoor
