/- Equality of values, the specification's way. -/
import Derived.Test.YtopkpdaingmmeaaVFew
import Derived.Deep.QuietTactic
import Derived.Deep.DeepCutAuto
import Derived.Deep.RegionLaw
namespace Go.Proofs.Ytopkpdaingmmeaa
open Go.RowKit

def RSameOf (N : Nat) : Prop := ∀ (v u : V), rank v ≤ N → ∀ (w : World) (B B' : Nat) (p q : Option Addr) (cap c : Nat), VAt w B v p cap → VAt w B' u q c →
  Calls Try.prog 20 #[vV v p cap, vV u q c] w fun e w' => e = .returned (.bool (sm v u)) ∧ Below w.heap.size w w'

set_option maxHeartbeats 4000000 in
set_option maxRecDepth 100000 in
theorem rsame_rank (N : Nat) : RSameOf N := by
  induction N with
  | zero => intro v u hv; obtain ⟨k, n, s, l⟩ := v; rw [rank_mk] at hv; omega
  | succ N ih =>
    intro v u hv w B B' p q cap c h h'
    obtain ⟨k, n, s, l⟩ := v
    obtain ⟨k', n', s', l'⟩ := u
    have hrl : ∀ x ∈ l, rank x ≤ N := fun x hx => by have := rank_lt k n s l x hx; omega
    have hl := h.list
    have hl' := h'.list
    have hlen := h.len
    have hlen' := h'.len
    change LAt w B l p cap at hl
    change LAt w B' l' q c at hl'
    change l.length ≤ 2600000000000 at hlen
    change l'.length ≤ 2600000000000 at hlen'
    have HL := Lib.hid hl
    have HL' := Lib.hid hl'
    have HB : Hid (∀ o o', Below w.heap.size w ((w.alloc o).alloc o')) := Lib.hid fun o o' => ((Below.refl w.heap.size w).alloc (Nat.le_refl _) o).alloc (by simp) o'
    clear h h' hl hl'
    show Calls Try.prog 20 #[.agg #[.int .i64 k, .int .i64 n, .string s, .slice p l.length cap], .agg #[.int .i64 k', .int .i64 n', .string s', .slice q l'.length c]] w _
    rw [sm_mk2]
    by_cases hk : k = k'
    · by_cases hn : n = n'
      · by_cases hs : s.toList = s'.toList
        · by_cases hle : l.length = l'.length
          · rw [decide_eq_true hk, decide_eq_true hn, decide_eq_true hs, Bool.true_and, Bool.true_and, Bool.true_and, ← hle]
            have HLE := Lib.hid hle
            subst hk hn
            clear hle
            go_enter Try.func20, Try.ntmps20
            go_wp2_with fail
            go_loopw [5] (fun i wr => ∃ j : Nat, j ≤ l.length ∧ i = .int .i64 j ∧ Hid (l.take j = l'.take j) ∧ Hid (Below w.heap.size w wr ∧ Box wr w.heap.size k n s (.slice p l.length cap) ∧ Box wr (w.heap.size + 1) k n s' (.slice q l.length c))) (fun i _ => l.length - (intOf i).toNat)
            case atStart =>
              refine ⟨0, Nat.zero_le _, rfl, Lib.hid rfl, Lib.hid ⟨HB.out _ _, (Box.new w _ _ _ _).bel ((Below.refl _ _).alloc (Nat.le_refl _) _) (by simp), ?_⟩⟩
              have := Box.new (w.alloc (.cells #[.int .i64 k, .int .i64 n, .string s, .slice p l.length cap] 24)) k n s' (.slice q l.length c)
              rwa [World.size_alloc] at this
            case round =>
              obtain ⟨j, hj, rfl, HT, HK⟩ := hrel
              obtain ⟨x0, a0, a1, a2, a3⟩ := HK.out.2.1
              obtain ⟨y0, b0, b1, b2, b3⟩ := HK.out.2.2
              by_cases hlt : j < l.length
              · obtain ⟨b, off, p1, c1, rfl, hbs, e0, e1, e2, e3, hx⟩ := HL.out.elem HK.out.1 j hlt
                obtain ⟨b', off', p2, c2, rfl, hbs', g0, g1, g2, g3, hy⟩ := HL'.out.elem HK.out.1 j (by have := HLE.out; omega)
                have HC : Hid (∀ wd, Below wr.heap.size wr wd → Calls Try.prog 20 #[vV l[j] p1 c1, vV l'[j] p2 c2] wd fun e w' => e = .returned (.bool (sm l[j] l'[j])) ∧ Below wr.heap.size wr w') := Lib.hid fun wd hd =>
                  (ih l[j] l'[j] (hrl _ (List.getElem_mem hlt)) _ B B' p1 p2 c1 c2 (hx.bel hd) (hy.bel hd)).mono fun e w' h => ⟨h.1, hd.trans (h.2.mono hd.size)⟩
                have HTK := Lib.hid (take_eq l l' j hlt (by have := HLE.out; omega) HT.out)
                have HNE : Hid (l[j] ≠ l'[j] → l ≠ l') := Lib.hid fun hne he => hne (by subst he; rfl)
                have HS := Lib.hid (sm_iff l[j] l'[j])
                unfold vV at HC
                clear hx hy
                generalize l[j] = x at *
                generalize l'[j] = y at *
                generalize x.l.length = n1 at *
                generalize x.k = x1 at *
                generalize x.n = x2 at *
                generalize x.s = x3 at *
                generalize y.l.length = m1 at *
                generalize y.k = y1 at *
                generalize y.n = y2 at *
                generalize y.s = y3 at *
                generalize sm x y = f at *
                have wj1 : (j : Int) < (l.length : Int) := by omega
                go_upto_region 6 with (fail)
                go_cut [52] from 34 to 52 (fun v wc => v = .bool (!f) ∧ Hid (Below wr.heap.size wr wc))
                case first =>
                  go_region_law (go_simp; go_at_call 20; refine (HC.out _ (by first | exact Below.refl _ _ | exact (Below.refl _ _).drew | exact (Below.refl _ _).drew.drew)).mono ?_; rintro e w' ⟨rfl, hb'⟩)
                  all_goals
                    go_wp2_with fail
                    go_meet
                    exact ⟨rfl, Lib.hid hb'⟩
                case rest =>
                  obtain ⟨rfl, HBC⟩ := hcut
                  have HK3 : Hid (Below w.heap.size w wc ∧ Box wc w.heap.size k n s (.slice (some ⟨b, off, none⟩) l.length cap) ∧ Box wc (w.heap.size + 1) k n s' (.slice (some ⟨b', off', none⟩) l.length c)) := Lib.hid ⟨HK.out.1.trans (HBC.out.mono HK.out.1.size), HK.out.2.1.bel HBC.out HK.out.2.1.lt, HK.out.2.2.bel HBC.out HK.out.2.2.lt⟩
                  clear HBC HC
                  cases f with
                  | true =>
                    go_wp2_with fail
                    go_round
                    case rel => exact ⟨j + 1, by omega, by go_num, Lib.hid (HTK.out (HS.out.1 (by first | rfl | trivial))), HK3⟩
                    case measure => simp [intOf]; omega
                  | false =>
                    go_wp2_with fail
                    go_ret
                    exact ⟨ret_bool (smL_no (HNE.out fun e => by have := HS.out.2 e; simp at this)).symm, HK3.out.1⟩
              · have HEQ : Hid (l = l') := Lib.hid (by
                  have := HT.out
                  have hle := HLE.out
                  rwa [List.take_of_length_le (by omega), List.take_of_length_le (by omega)] at this)
                go_wp2_with fail
                go_ret
                exact ⟨ret_bool (smL_yes HEQ.out).symm, HK.out.1⟩
          · have hno : smL l l' = false := smL_no fun e => hle (by rw [e])
            have HNO := Lib.hid hno
            have hle2 : ¬ (l.length : Int) = l'.length := by omega
            generalize l.length = n1 at *
            generalize l'.length = n2 at *
            clear hno
            go_enter Try.func20, Try.ntmps20
            go_wp2_with fail
            all_goals go_ret
            all_goals exact ⟨ret_bool (by rw [HNO.out]; simp), HB.out _ _⟩
        · go_enter Try.func20, Try.ntmps20
          go_wp2_with fail
          all_goals go_ret
          all_goals exact ⟨ret_bool (by simp [hs]), HB.out _ _⟩
      · go_enter Try.func20, Try.ntmps20
        go_wp2_with fail
        all_goals go_ret
        all_goals exact ⟨ret_bool (by simp [hn]), HB.out _ _⟩
    · go_enter Try.func20, Try.ntmps20
      go_wp2_with fail
      all_goals go_ret
      all_goals exact ⟨ret_bool (by simp [hk]), HB.out _ _⟩
end Go.Proofs.Ytopkpdaingmmeaa
