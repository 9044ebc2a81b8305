/- The program's reader of quoted texts. -/
import Derived.Test.YtdhdjfkknfbmhaaGreatDoorKChr
import Derived.Lib.AppendStr
import Derived.Deep.AppendLies
import Derived.Laws.BytesArg
import Derived.Deep.RegionHeld3
namespace Go.Proofs.YtdhdjfkknfbmhaaGreatDoor
open Go.RowKit

theorem Tryz.infoU8 : (Tryz.prog.info? 5).map (fun i => (i.zero, i.size, i.bytes)) = some (some (.int .u8 0), 1, 1) := by kernel_rfl
def bv (b : UInt8) : Value := .int .u8 b.toNat
/-- The row v is the call's own, from block lo on, and holds bs. -/
def Row (w : World) (lo : Nat) (v : Value) (bs : Bs) : Prop := w.ownsRow lo 5 1 v bs.length (bs.map bv)
theorem Row.rows {w : World} {lo : Nat} {v : Value} {bs : Bs} (h : Row w lo v bs) : ∀ k, v.ownBlock = some k → lo ≤ k ∧ k < w.heap.size := fun k hk => World.ownsRow.lt h k hk
theorem Row.mono {w : World} {lo lo' : Nat} {v : Value} {bs : Bs} (h : Row w lo v bs) (hl : lo' ≤ lo) : Row w lo' v bs :=
  ⟨h.1, h.2.imp id fun ⟨g, cap, cur, a, b, c⟩ => ⟨g, cap, cur, a, Nat.le_trans hl b, c⟩⟩
theorem Row.bel {w w' : World} {lo m : Nat} {v : Value} {bs : Bs} (h : Row w lo v bs) (hb : Below m w w') (hm : w.heap.size ≤ m) : Row w' lo v bs := by
  refine ⟨h.1, h.2.imp id ?_⟩
  rintro ⟨g, cap, cur, a, b, c, d⟩
  exact ⟨g, cap, cur, a, b, by rw [hb.block g (by have := (Array.getElem?_eq_some_iff.1 c).1; omega)]; exact c, d⟩
theorem Row.one (w : World) (c : UInt8) : Row (w.alloc (.cells #[.int .u8 c.toNat] 5)) w.heap.size (.slice (some ⟨w.heap.size, 0, none⟩) 1 1) [c] :=
  ⟨rfl, .inr ⟨w.heap.size, 1, #[.int .u8 c.toNat], rfl, Nat.le_refl _, heap_alloc_new w _, Nat.le_refl _, by decide, rfl, rfl⟩⟩
theorem Row.form {w : World} {lo : Nat} {v : Value} {bs : Bs} (h : Row w lo v bs) (hne : 0 < bs.length) : ∃ g cap, v = .slice (some ⟨g, 0, none⟩) bs.length cap := by
  rcases h.2 with ⟨_, h0⟩ | ⟨g, cap, cur, rfl, _⟩
  · omega
  · exact ⟨g, cap, rfl⟩
theorem Row.nil (w : World) (lo : Nat) : Row w lo (.slice none 0 0) [] := ⟨rfl, .inl ⟨rfl, rfl⟩⟩

/-- append(s, x...): both rows of bytes. -/
theorem wpList_appRow {ops : Array Oper} {rest : List Oper} {o : Oper} {a : Act} {w : World} {Q : Exit → Act → World → Prop} (hgd : o.guard = none) (s x : Operand)
    (ho : o.op = .call { callee := .builtin .append, args := #[s, x], argTypes := #[22, 22] })
    (lo : Nat) (v : Value) (bs : Bs) (hrow : Row w lo v bs) (hs : a.eval s = v) (lo' : Nat) (v' : Value) (cs : Bs) (hsrc : Row w lo' v' cs) (hx : a.eval x = v') (hcs : 0 < cs.length)
    (hn : bs.length + cs.length ≤ 10000000000000) (hlo : lo ≤ w.heap.size)
    (h : ∀ v2 w', Row w' lo v2 (bs ++ cs) → Below lo w w' → w.heap.size ≤ w'.heap.size → wpList Tryz.prog ops Q rest (a.put o.dst v2) w') :
    wpList Tryz.prog ops Q (o :: rest) a w := by
  obtain ⟨i0, hi, hz0, hz1, hz2⟩ := info_parts Tryz.infoU8
  obtain ⟨g', cap', rfl⟩ := hsrc.form hcs
  refine wpList_append_lies _ hgd s x 22 ho lo 5 i0 _ 1 1 Tryz.underlying22 hi hz0 hz1 hz2 rfl (by decide) v bs.length (bs.map bv) hs hrow ⟨g', 0, none⟩ cs.length cap' (cs.map bv) hx (by simp) (World.ownsRow.cells hsrc (g := g') rfl) (by simp [Value.oneCell', bv]) hcs (by unfold maxLen; omega) (by omega) hlo w.heap.size rfl ?_
  intro g cap w' hown hg _ _
  refine h _ w' (by unfold Row; rw [List.length_append, List.map_append]; exact hown) ⟨hg.os, hg.tape, hg.output, hg.size, fun k hk => hg.block k (by omega) fun e => ?_⟩ hg.size
  have := (hrow.rows k e.symm).1
  omega
/-- append(s, t...): a text behind a row of bytes. -/
theorem wpList_appText {ops : Array Oper} {rest : List Oper} {o : Oper} {a : Act} {w : World} {Q : Exit → Act → World → Prop} (hgd : o.guard = none) (s x : Operand)
    (ho : o.op = .call { callee := .builtin .append, args := #[s, x], argTypes := #[22, 9] })
    (lo : Nat) (v : Value) (bs : Bs) (hrow : Row w lo v bs) (hs : a.eval s = v) (tx : ByteArray) (hx : a.eval x = .string tx)
    (hn : bs.length + tx.size ≤ 10000000000000) (hlo : lo ≤ w.heap.size)
    (h : ∀ v2 w', Row w' lo v2 (bs ++ tx.data.toList) → Below lo w w' → w.heap.size ≤ w'.heap.size → wpList Tryz.prog ops Q rest (a.put o.dst v2) w') :
    wpList Tryz.prog ops Q (o :: rest) a w := by
  obtain ⟨i0, hi, hz0, hz1, hz2⟩ := info_parts Tryz.infoU8
  refine Lib.wpList_append_own_string w hgd s x 22 9 ho lo 5 i0 Tryz.underlying22 Tryz.underlying9 hi hz0 hz1 hz2 v bs.length (bs.map bv) hs hrow tx hx (by unfold maxLen; omega) (by omega) hlo ?_
  intro v2 w' hown hg _
  refine h _ w' (by unfold Row; rw [List.length_append, List.map_append, Array.length_toList]; exact hown) ⟨hg.os, hg.tape, hg.output, hg.size, fun k hk => hg.block k (by omega) fun e => ?_⟩ hg.size
  have := (hrow.rows k e.symm).1
  omega

theorem addr_add (b o j : Nat) : (⟨b, o, none⟩ : Addr).add j = ⟨b, o + j, none⟩ := by
  unfold Addr.add
  split <;> simp_all
set_option maxRecDepth 100000 in
/-- string(b), of a row of the call's own. -/
theorem strRow {w : World} {lo : Nat} {v : Value} {bs : Bs} (h : Row w lo v bs) : (convert 22 9 v).run Tryz.prog w = .ok (.string (S bs)) w := by
  by_cases hl : bs.length = 0
  · have : bs = [] := List.eq_nil_of_length_eq_zero hl
    subst this
    rcases h.2 with ⟨rfl, _⟩ | ⟨g, cap, cur, rfl, _⟩
    · exact run_convert_bytes_nil w _ _ Tryz.underlying22 Tryz.underlying5 _ _ 9 Tryz.underlying9
    · show (convert 22 9 (.slice (some ⟨g, 0, none⟩) 0 cap)).run Tryz.prog w = _
      rw [run_convert_bytes_string w 22 9 5 _ _ _ Tryz.underlying22 Tryz.underlying5 Tryz.underlying9]
      exact run_bytesToString w ⟨g, 0, none⟩ 0 cap [] (by simp [loadCells, loadCellsFrom, Sem.run_pure])
  · obtain ⟨g, cap, rfl⟩ := h.form (by omega)
    have hc := World.ownsRow.cells h (g := g) rfl
    have := run_convert_bytes_arg w 22 5 Tryz.underlying22 Tryz.underlying5 g 0 bs.length cap (bs.map fun x => (x.toNat : Int)) (by simp) (fun i hi => by
      have h2 := hc i (bv bs[i]) (by rw [List.getElem?_map, List.getElem?_eq_getElem hi]; rfl)
      have h3 : w.cell? ⟨g, 0 + i, none⟩ = some (bv bs[i]) := by rw [← addr_add]; exact h2
      rw [h3]
      simp [List.getD, List.getElem?_eq_getElem hi, bv]) 9 Tryz.underlying9
    rw [this]
    congr 2
    simp [strOfNums, Function.comp_def, S]

theorem hasPrefix_q (r : Bs) : Lib.hasPrefix r [34] = decide (r.head? = some 34) := by
  unfold Lib.hasPrefix
  cases r with
  | nil => rfl
  | cons c t =>
    by_cases h : c = 34
    · subst h; simp [List.isPrefixOf]
    · have h1 : ((34 : UInt8) == c) = false := by simpa using fun e : 34 = c => h e.symm
      simp [List.isPrefixOf, h1, h]

/-- What unquoted finds behind the first byte. -/
def unqR (r : Bs) : ByteArray × Int × Bool :=
  if (body r).2.head? = some 34 then (S (body r).1, ((r.length - (body r).2.length + 2 : Nat) : Int), true) else (S [], ((r.length - (body r).2.length + 1 : Nat) : Int), false)
theorem unqR_yes {r pre : Bs} {j : Nat} (h : body r = (pre, r.drop j)) (hj : j ≤ r.length) (hq : (r.drop j).head? = some 34) : unqR r = (S pre, ((j + 2 : Nat) : Int), true) := by
  unfold unqR
  rw [h, if_pos hq, List.length_drop, show r.length - (r.length - j) = j by omega]
theorem unqR_no {r pre : Bs} {j : Nat} (h : body r = (pre, r.drop j)) (hj : j ≤ r.length) (hq : ¬ (r.drop j).head? = some 34) : unqR r = (S [], ((j + 1 : Nat) : Int), false) := by
  unfold unqR
  rw [h, if_neg hq, List.length_drop, show r.length - (r.length - j) = j by omega]

set_option maxHeartbeats 4000000 in
set_option maxRecDepth 100000 in
theorem unquoted_any (r : Bs) (hb : r.length ≤ 90000) (w : World) (hG : Gl w) :
    Calls Tryz.prog 111 #[.string (S (34 :: r))] w fun e w' =>
      e = .returned (.tuple #[.string (unqR r).1, .int .i64 (unqR r).2.1, .bool (unqR r).2.2]) ∧ Below w.heap.size w w' := by
  have HY : Hid (∀ (pre : Bs) (j : Nat), body r = (pre, r.drop j) → j ≤ r.length → (r.drop j).head? = some 34 → unqR r = (S pre, ((j + 2 : Nat) : Int), true)) := Lib.hid fun pre j => unqR_yes
  have HN : Hid (∀ (pre : Bs) (j : Nat), body r = (pre, r.drop j) → j ≤ r.length → ¬ (r.drop j).head? = some 34 → unqR r = (S [], ((j + 1 : Nat) : Int), false)) := Lib.hid fun pre j => unqR_no
  generalize unqR r = R at *
  have hsz := S_size (34 :: r)
  rw [List.length_cons] at hsz
  have HG := Lib.hid hG
  clear hG
  go_enter Tryz.func111, Tryz.ntmps111
  go_wp2_with fail
  go_loopw [3, 5] (fun n b wr => ∃ (j : Nat) (pre : Bs), j ≤ r.length ∧ n = .int .i64 (j + 1 : Nat) ∧ pre.length ≤ j ∧ Hid (body r = (pre ++ (body (r.drop j)).1, (body (r.drop j)).2)) ∧ Hid (Row wr w.heap.size b pre) ∧ Hid (Below w.heap.size w wr)) (fun n _ _ => r.length + 1 - (intOf n).toNat)
  case atStart => exact ⟨0, [], Nat.zero_le _, rfl, Nat.zero_le _, Lib.hid rfl, Lib.hid (Row.nil _ _), Lib.hid (Below.refl _ _)⟩
  case round =>
    obtain ⟨j, pre, hj, rfl, hpre, HBd, HR, HB⟩ := hrel
    have HX : Hid ((S (34 :: r)).extract (j + 1) (r.length + 1) = S (r.drop j)) := Lib.hid (by rw [S_extract]; simp)
    have HC := character_any (r.drop j) (by rw [List.length_drop]; omega) wr (HG.out.bel' HB.out)
    have hm := chr_le (r.drop j)
    have HST := Lib.hid (@body_stop (r.drop j))
    have HGO := Lib.hid (@body_go (r.drop j))
    rw [List.length_drop] at hm
    rw [List.drop_drop] at HGO
    rw [← HX.out] at HC
    have HC' := Lib.hid HC
    clear HC
    generalize hch : (chr (r.drop j)).1 = c at *
    generalize hmn : (chr (r.drop j)).2 = m at *
    clear hch hmn
    by_cases h0 : m = 0
    · have HS := Lib.hid (HST.out h0)
      have HXX := Lib.hid HBd.out
      rw [HS.out, List.append_nil] at HXX
      have HRest : Hid (body r = (pre, r.drop j)) := Lib.hid HXX.out
      have HP : Hid (∀ w, Calls Tryz.prog 110 #[.string ((S (34 :: r)).extract (j + 1) (r.length + 1)), .string ⟨#[34]⟩] w fun e w' => e = .returned (.bool (decide ((r.drop j).head? = some 34))) ∧ w' = w) := Lib.hid fun w => by
        rw [HX.out]
        have := hasPrefix_any (r.drop j) [34] w
        rw [hasPrefix_q] at this
        exact this
      by_cases hq : (r.drop j).head? = some 34
      · have HRR := Lib.hid (HY.out _ _ HRest.out hj hq)
        rw [decide_eq_true hq] at HP
        clear hq HRest HXX HS
        go_wp2_with fail
        go_at_call 150
        refine HC'.out.mono ?_
        rintro e w1 ⟨rfl, hb1⟩
        have HB1 := Lib.hid (HB.out.trans (hb1.mono HB.out.size))
        have HR1 := Lib.hid (HR.out.bel hb1 (Nat.le_refl _)); clear hb1
        have hcv := strRow HR1.out
        go_wp2_with fail
        go_at_call 110
        refine (HP.out _).mono ?_
        rintro e w2 ⟨rfl, rfl⟩
        go_wp2_with fail
        go_ret3
        rw [HRR.out]
        exact ⟨rfl, HB1.out⟩
      · have HRR := Lib.hid (HN.out _ _ HRest.out hj hq)
        rw [decide_eq_false hq] at HP
        clear hq HRest HXX HS
        go_wp2_with fail
        go_at_call 150
        refine HC'.out.mono ?_
        rintro e w1 ⟨rfl, hb1⟩
        have HB1 := Lib.hid (HB.out.trans (hb1.mono HB.out.size))
        have HR1 := Lib.hid (HR.out.bel hb1 (Nat.le_refl _)); clear hb1
        go_wp2_with fail
        go_at_call 110
        refine (HP.out _).mono ?_
        rintro e w2 ⟨rfl, rfl⟩
        go_wp2_with fail
        go_ret3
        rw [HRR.out]
        exact ⟨rfl, HB1.out⟩
    · have hm1 : 1 ≤ m := by omega
      go_wp2_with fail
      go_at_call 150
      refine HC'.out.mono ?_
      rintro e w1 ⟨rfl, hb1⟩
      have hsz1 := HB.out.size
      have hsz2 := hb1.size
      have HB1 := Lib.hid (HB.out.trans (hb1.mono HB.out.size))
      have HR1 := Lib.hid (HR.out.bel hb1 (Nat.le_refl _)); clear hb1
      have HR2 : Hid (∀ o, Row (w1.alloc o) w.heap.size _ pre) := Lib.hid fun o => HR1.out.bel ((Below.refl w1.heap.size w1).alloc (Nat.le_refl _) o) (Nat.le_refl _)
      have HO := Lib.hid (Row.one w1 c)
      have hn1 : pre.length + [c].length ≤ 10000000000000 := by simp; omega
      have hn2 : w.heap.size ≤ (w1.alloc (.cells #[.int .u8 c.toNat] 5)).heap.size := by simp; omega
      have hn3 : 0 < [c].length := Nat.zero_lt_one
      go_wp2_with (refine wpList_appRow rfl _ _ rfl w.heap.size _ _ (HR2.out _) rfl _ _ _ HO.out rfl hn3 hn1 hn2 ?_; intro v2 w2 hr2 hb2 hsz3)
      have HR3 := Lib.hid hr2
      have HB2 := Lib.hid ((HB1.out.alloc HB1.out.size _).trans hb2)
      go_round
      case rel =>
        refine ⟨j + m, pre ++ [c], by omega, by go_num, by simp; omega, Lib.hid ?_, HR3, HB2⟩
        rw [HBd.out, HGO.out h0, List.append_assoc]; rfl
      case measure => simp [intOf]; omega
end Go.Proofs.YtdhdjfkknfbmhaaGreatDoor
