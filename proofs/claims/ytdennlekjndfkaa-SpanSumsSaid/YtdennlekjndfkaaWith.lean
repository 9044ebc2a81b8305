import Derived.Test.YtdennlekjndfkaaOwn
import Derived.Test.YtdennlekjndfkaaRefB
import Derived.StillTailTactics
namespace Go.Proofs.Ytdennlekjndfkaa
open Go.RowKit

theorem Bd.fit {s : Sp} (h : Bd s) : FitSp s := by unfold Bd at h; unfold FitSp; omega

/-- What holds between two rounds of the loop in 'with'. -/
def WithRel (l : List Sp) (s0 : Sp) (w : World) (k : Nat) (o : List Sp) (s : Sp) (d : Bool) (v : Value) (wr : World) : Prop :=
  wRun (l.take k) s0 = (o, s, d) ∧ Own wr (w.heap.size + 1) v o ∧ (wr.cell? ⟨w.heap.size, 0, none⟩ = some (.int .i64 s.1) ∧ wr.cell? ⟨w.heap.size, 1, none⟩ = some (.int .i64 s.2) ∧ (∀ o, wr.frozen? ⟨w.heap.size, o, none⟩ = false)) ∧ Below w.heap.size w wr ∧ w.heap.size < wr.heap.size

theorem WithRel.next {l : List Sp} {s0 : Sp} {w : World} {k : Nat} {o1 : List Sp} {s : Sp} {d1 : Bool} {v1 : Value} {wr w1 : World} (hrun : wRun (l.take (k + 1)) s0 = (o1, s, d1))
    (c1 : wr.cell? ⟨w.heap.size, 0, none⟩ = some (.int .i64 s.1)) (c2 : wr.cell? ⟨w.heap.size, 1, none⟩ = some (.int .i64 s.2)) (hf : ∀ o, wr.frozen? ⟨w.heap.size, o, none⟩ = false)
    (hbel : Below w.heap.size w wr) (hsz : w.heap.size < wr.heap.size) (hown : Own w1 (w.heap.size + 1) v1 o1) (hb : Below (w.heap.size + 1) wr w1) : WithRel l s0 w (k + 1) o1 s d1 v1 w1 :=
  ⟨hrun, hown, ⟨(hb.cell (p := ⟨w.heap.size, 0, none⟩) (Nat.lt_succ_self _)).trans c1, (hb.cell (p := ⟨w.heap.size, 1, none⟩) (Nat.lt_succ_self _)).trans c2, fun o => (hb.frozen (p := ⟨w.heap.size, o, none⟩) (Nat.lt_succ_self _)).trans (hf o)⟩,
    hbel.trans (hb.mono (Nat.le_succ _)), Nat.lt_of_lt_of_le hsz hb.size⟩

set_option maxRecDepth 100000 in
set_option maxHeartbeats 1000000 in
theorem with_any (p : Option Addr) (cap : Nat) (l : List Sp) (s0 : Sp) (w : World) (B : Nat) (hl : SpAt w B p l) (hbd : ∀ x ∈ l, Bd x) (hs0 : Bd s0) (hsmall : l.length ≤ 1000000) :
    Calls Try.prog 43 #[.slice p l.length cap, .agg #[.int .i64 s0.1, .int .i64 s0.2]] w fun e w' => ∃ v, e = .returned v ∧ Own w' w.heap.size v (withS l s0) ∧ Below w.heap.size w w' := by
  go_enter Try.func43, Try.ntmps43
  go_wp2
  go_loopw [5, 6, 7] (fun v dn i wr => ∃ (k : Nat) (o : List Sp) (s : Sp) (d : Bool), k ≤ l.length ∧ i = .int .i64 k ∧ dn = .bool d ∧ WithRel l s0 w k o s d v wr) (fun _ _ i _ => l.length - (intOf i).toNat)
  case atStart =>
    exact ⟨0, [], s0, false, Nat.zero_le _, rfl, rfl, rfl, Own.made (w.alloc _) _ _ (by simp) (by simp), ⟨by simp, by simp, by simp⟩, ((Below.refl _ _).alloc (Nat.le_refl _) _).alloc (by simp) _, by simp; omega⟩
  case round =>
    obtain ⟨k, o, s, d, hk, rfl, rfl, hrun, hown, ⟨c1, c2, hf⟩, hbel, hsz⟩ := hrel
    have HRUN := Lib.hid hrun; clear hrun
    have HBEL := Lib.hid hbel
    have hst := wRun_okT l s0 hs0 hbd k hk
    rw [HRUN.out] at hst
    obtain ⟨ho, hs, hol⟩ := hst
    have HO := Lib.hid ho; clear ho
    have hol : o.length ≤ k + 1 := by revert hol; dsimp only; split <;> omega
    have hs' := hs
    unfold Bd at hs'
    by_cases hlt : k < l.length
    · obtain ⟨b, off, rfl, _, hbs, hc⟩ := hl.at' (by intro h; simp [h] at hlt)
      have c3 := (hbel.cell (p := ⟨b, off + k * 2, none⟩) hbs).trans (hc k hlt).1
      have c4 := (hbel.cell (p := ⟨b, off + k * 2 + 1, none⟩) hbs).trans (hc k hlt).2
      have HT := Lib.hid (wRun_take l s0 k hlt)
      have hx := hbd l[k] (List.getElem_mem hlt)
      clear hc hbel
      generalize l[k] = x at *
      rw [HRUN.out] at HT
      unfold Bd at hx
      by_cases g1 : x.2 + 1 < s.1
      · have HT2 : Hid (wRun (List.take (k + 1) l) s0 = (o ++ [x], s, d)) := by have := HT.out; rw [this]; unfold wStep; exact if_pos g1
        clear HT
        go_wp2
        go_quiet (fail)
        go_wp2_with (at_builtin; refine wpList_app rfl _ _ rfl (w.heap.size + 1) _ o (hown.drewN _) rfl x _ rfl (by omega) (by show w.heap.size + 1 ≤ wr.heap.size; omega) ?_; intro v' w1 hown1 hb1 hs1 hv1)
        go_roundw
        case rel => exact ⟨k + 1, o ++ [x], s, d, by omega, by go_num, rfl, WithRel.next HT2.out c1 c2 hf HBEL.out hsz hown1 (below_drewN (Below.refl _ _) _ |>.trans hb1)⟩
        case measure => simp [intOf]; omega
      · have hd1 : decide (x.2 + 1 < s.1) = false := decide_eq_false g1
        by_cases g2 : s.2 + 1 < x.1
        · cases d with
          | true =>
            have HT2 : Hid (wRun (List.take (k + 1) l) s0 = (o ++ [x], s, true)) := by have := HT.out; rw [this]; unfold wStep; rw [if_neg g1, if_pos g2]; rfl
            clear HT
            go_wp2
            go_quiet (fail)
            go_wp2
            go_quiet (fail)
            go_wp2_with (at_builtin; refine wpList_app rfl _ _ rfl (w.heap.size + 1) _ o (hown.drewN _) rfl x _ rfl (by omega) (by show w.heap.size + 1 ≤ wr.heap.size; omega) ?_; intro v' w1 hown1 hb1 hs1 hv1)
            go_roundw
            case rel => exact ⟨k + 1, o ++ [x], s, true, by omega, by go_num, rfl, WithRel.next HT2.out c1 c2 hf HBEL.out hsz hown1 (below_drewN (Below.refl _ _) _ |>.trans hb1)⟩
            case measure => simp [intOf]; omega
          | false =>
            have HT2 : Hid (wRun (List.take (k + 1) l) s0 = (o ++ [s] ++ [x], s, true)) := by have := HT.out; rw [this]; unfold wStep; rw [if_neg g1, if_pos g2]; rfl
            clear HT
            go_wp2
            go_quiet (fail)
            go_wp2
            go_quiet (fail)
            go_wp2_with (first | (at_builtin; refine wpList_app rfl _ _ rfl (w.heap.size + 1) _ o (hown.drewN _) rfl s _ rfl (by omega) (by show w.heap.size + 1 ≤ wr.heap.size; omega) ?_; intro v1 w1 hown1 hb1 hs1 hv1; have d3 := (hb1.cell (p := ⟨b, off + k * 2, none⟩) (by show b < _; omega)).trans c3; have d4 := (hb1.cell (p := ⟨b, off + k * 2 + 1, none⟩) (by show b < _; omega)).trans c4) | (at_builtin; go_loud (refine wpList_app rfl _ _ rfl (w.heap.size + 1) _ (o ++ [s]) hown1 rfl x _ rfl (by simp; omega) (Nat.le_trans (show _ ≤ wr.heap.size by omega) hb1.size) ?_); intro v2 w2 hown2 hb2 hs2 hv2))
            go_roundw
            case rel => exact ⟨k + 1, o ++ [s] ++ [x], s, true, by omega, by go_num, rfl, WithRel.next HT2.out c1 c2 hf HBEL.out hsz hown2 ((below_drewN (Below.refl _ _) _ |>.trans hb1).trans hb2)⟩
            case measure => simp [intOf]; omega
        · have HT2 : Hid (wRun (List.take (k + 1) l) s0 = (o, (min s.1 x.1, max s.2 x.2), d)) := by have := HT.out; rw [this]; unfold wStep; rw [if_neg g1, if_neg g2]; rfl
          clear HT
          go_wp2
          go_quiet (fail)
          go_wp2
          go_quiet (fail)
          go_wp2
          go_region
          go_wp2
          go_roundw
          case rel =>
            have hmin : (if x.1 < s.1 then x.1 else s.1) = min s.1 x.1 := by split <;> omega
            have hmax : (if s.2 < x.2 then x.2 else s.2) = max s.2 x.2 := by split <;> omega
            rw [hmin, hmax]
            refine ⟨k + 1, o, (min s.1 x.1, max s.2 x.2), d, by omega, by go_num, rfl, HT2.out, ?_, ⟨?_, ?_, ?_⟩, ?_, ?_⟩
            · exact ((hown.drewN _).set (by simp) _).set (by simp) _
            · go_simp
            · go_simp
            · intro o; rw [World.frozen?_setCell, World.frozen?_setCell]; exact hf o
            · exact ((below_drewN HBEL.out _).setCell (Nat.le_refl _) _).setCell (Nat.le_refl _) _
            · simpa using hsz
          case measure => simp [intOf]; omega
    · clear hbel
      cases d with
      | true =>
        have HT2 : Hid (withS l s0 = o) := by have := HRUN.out; rw [List.take_of_length_le (by omega)] at this; unfold Hid withS; rw [this]; rfl
        go_wp2
        go_ret
        exact ⟨_, rfl, by rw [HT2.out]; exact hown.mono (by omega), HBEL.out⟩
      | false =>
        have HT2 : Hid (withS l s0 = o ++ [s]) := by have := HRUN.out; rw [List.take_of_length_le (by omega)] at this; unfold Hid withS; rw [this]; rfl
        go_wp2_with (at_builtin; go_loud (refine wpList_app rfl _ _ rfl (w.heap.size + 1) _ o hown rfl s _ rfl (by omega) (by omega) ?_); intro v1 w1 hown1 hb1 hs1 hv1)
        go_ret
        exact ⟨_, rfl, by rw [HT2.out]; exact hown1.mono (by omega), HBEL.out.trans (hb1.mono (by omega))⟩
end Go.Proofs.Ytdennlekjndfkaa
