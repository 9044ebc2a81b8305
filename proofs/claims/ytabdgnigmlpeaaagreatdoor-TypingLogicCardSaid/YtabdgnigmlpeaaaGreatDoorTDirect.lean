/- typing.Direct. -/
import Derived.Test.YtabdgnigmlpeaaaGreatDoorTApp2
namespace Go.Proofs.YtabdgnigmlpeaaaGreatDoor
open Go.RowKit

/-- What Direct returns. -/
def directR (l : List St) (x : En) : List Int × Int := if tiesE l ≠ 0 then ([], tiesE l) else if envE x ≠ 0 then ([], envE x) else (appFs x [] (l.map formS), 0)
/-- A slice that reads as a list of numbers. -/
def ReadsI (w : World) (v : Value) (l : List Int) : Prop := ∃ p cap b, v = .slice p l.length cap ∧ l.length ≤ 1000000 ∧ (l ≠ [] → p = some ⟨b, 0, none⟩) ∧ (∀ i (h : i < l.length), w.cell? ⟨b, i, none⟩ = some (.int .i64 l[i])) ∧ l.length ≤ cap ∧ cap ≤ 9223372036854775807
theorem ReadsI.bel {w w' : World} {v : Value} {l : List Int} (h : ReadsI w v l) (hb : Below w.heap.size w w') : ReadsI w' v l := by
  obtain ⟨p, cap, b, h1, h2, h3, h4, h5⟩ := h
  exact ⟨p, cap, b, h1, h2, h3, fun i hi => keepc hb (h4 i hi), h5⟩
theorem ReadsI.nil (w : World) : ReadsI w (.slice none 0 0) [] := ⟨none, 0, 0, rfl, by simp, fun h => absurd rfl h, fun i h => by simp at h, by simp, by simp⟩
/-- What a call of Direct comes to. -/
def DirR (w : World) (r : List Int × Int) (e : Ending) (w' : World) : Prop := ∃ v, e = .returned (.tuple #[v, .int .i64 r.2]) ∧ ReadsI w' v r.1 ∧ Below w.heap.size w w'
theorem tiesE_ok {l : List St} (h : tiesE l = 0) : stepFs (l.map formS) = true ∧ nFs (l.map formS) ≤ 64 := by
  unfold tiesE at h
  split at h
  · cases h
  · rename_i h1
    split at h
    · rename_i h2
      unfold stepsOk at h2
      rw [Bool.and_eq_true, ← rngFs_eq, ← formSs_eq] at h2
      have hf : (fitT 0 64 l).1 = true := by
        cases hh : (fitT 0 64 l).1 with
        | true => rfl
        | false => exact absurd (.inl hh) h1
      have := fitT_few hf
      have := nFs_formSs l
      rw [← formSs_eq]
      exact ⟨stepFs_formSs l h2.2, by omega⟩
    · cases h

set_option maxHeartbeats 4000000 in
theorem tDirect_any {w : World} {Q : Nat → Prop} {l : List St} {p : Option Addr} {cap : Nat} (h : SsIn w Q l p cap) (x : En) :
    Calls Tryz.prog 22 #[.slice p l.length cap, envV x] w (DirR w (directR l x)) := by
  have hA := (Below.refl w.heap.size w).alloc (Nat.le_refl _) (.cells #[.int .i64 x.d, .int .i64 x.f, .int .i64 x.s] 42)
  have hE := EnvAt.new w x
  have hrs := readSteps_any (h.bel hA)
  have H : Hid (Calls Tryz.prog 49 #[.slice p l.length cap] (w.alloc (.cells #[.int .i64 x.d, .int .i64 x.f, .int .i64 x.s] 42)) fun e w' => ((tiesE l = 0 → ∃ q k, e = .returned (.tuple #[.slice q l.length k, .int .i64 0]) ∧ FsIn w' (fun _ => True) (l.map formS) q k) ∧ (tiesE l ≠ 0 → e = .returned (.tuple #[.slice none 0 0, .int .i64 (tiesE l)]))) ∧ Below w.heap.size w w' ∧ EnvAt w' w.heap.size x) := Lib.hid (hrs.mono fun e w' hr =>
    ⟨⟨fun h0 => by obtain ⟨q, k, h1, h2⟩ := hr.1 h0; exact ⟨q, k, h1, h2.keep2 (Nat.le_refl _) fun _ _ _ => ⟨trivial, rfl⟩⟩, hr.2.1⟩, hA.trans (hr.2.2.mono hA.size), hE.bel hr.2.2⟩)
  have HN := Lib.hid (fun W => env_any x W)
  have HA2 : Hid (tiesE l = 0 → ∀ W q k, FsIn W (fun _ => True) (l.map formS) q k → Calls Tryz.prog 52 #[.slice none 0 0, .slice q l.length k, envV x] W fun e w' => ∃ v, e = .returned v ∧ ReadsI w' v (appFs x [] (l.map formS)) ∧ Below W.heap.size W w') := Lib.hid fun h0 W q k hf => by
    obtain ⟨hst, hn⟩ := tiesE_ok h0
    have := app_list x (fun b => b < W.heap.size) _ hst W W.heap.size (.slice none 0 0) [] q k (fun b hb => hb) (Nat.le_refl _) (World.ownsRow_nil W _ _ _) (by rw [List.length_nil]; omega) (hf.keep2 (Nat.le_refl _) fun b _ hb => ⟨hb, rfl⟩)
    rw [List.length_map] at this
    refine this.mono fun e w' ⟨val', he, ho, hg, _⟩ => ?_
    have hlen := appFs_len x (l.map formS) []
    rw [List.length_nil] at hlen
    obtain ⟨p, cap, b, h1, h2, h3, h4⟩ := OwnI.reads ho (by omega)
    exact ⟨val', he, ⟨p, cap, b, h1, by omega, h2, h3, h4⟩, ⟨hg.os, hg.tape, hg.output, hg.size, fun k hk => hg.block k hk (by simp [Value.ownBlock])⟩⟩
  have HEC := Lib.hid (envE_cases x)
  clear hA hE hrs h
  unfold directR
  unfold envV at *
  generalize tiesE l = E at *
  generalize l.map formS = fs at *
  generalize appFs x [] fs = L at *
  generalize envE x = E2 at *
  generalize l.length = n at *
  have HNil := Lib.hid ReadsI.nil
  by_cases hE : E = 0
  · subst hE
    have HA3 := Lib.hid (HA2.out rfl)
    rw [if_neg (by decide)]
    clear HA2
    rcases HEC.out with rfl | rfl
    · rw [if_neg (by decide)]
      go_enter Tryz.func22, Tryz.ntmps22
      go_wp2_with fail
      go_at_call 49
      (with_reducible refine H.out.mono ?_)
      rintro e w1 ⟨⟨h1, -⟩, hb, ⟨c0, c1, c2⟩⟩
      obtain ⟨q, k, rfl, hf⟩ := h1 (by trivial)
      have HB := Lib.hid hb
      have HF := Lib.hid hf
      clear hb h1 hf H
      go_wp2_with fail
      go_at_call 20
      (with_reducible refine (HN.out _).mono ?_)
      rintro e w2 ⟨rfl, hb⟩
      have HB2 := Lib.hid (HB.out.trans (hb.mono HB.out.size))
      have HF2 := Lib.hid (HF.out.bel hb)
      have d0 := keepc hb c0
      have d1 := keepc hb c1
      have d2 := keepc hb c2
      clear hb c0 c1 c2 HN
      go_wp2_with fail
      go_at_call 52
      (with_reducible refine (HA3.out _ _ _ HF2.out).mono ?_)
      rintro e w3 ⟨v, rfl, hrd, hb⟩
      have HB3 := Lib.hid (HB2.out.trans (hb.mono HB2.out.size))
      have HRd := Lib.hid hrd
      obtain ⟨pv, cv, bv, rfl, -⟩ := hrd
      clear hb
      go_wp2_with fail
      go_ret2
      exact ⟨_, rfl, HRd.out, HB3.out⟩
    · rw [if_pos (by decide)]
      go_enter Tryz.func22, Tryz.ntmps22
      go_wp2_with fail
      go_at_call 49
      (with_reducible refine H.out.mono ?_)
      rintro e w1 ⟨⟨h1, -⟩, hb, ⟨c0, c1, c2⟩⟩
      obtain ⟨q, k, rfl, hf⟩ := h1 (by trivial)
      have HB := Lib.hid hb
      clear hb h1 hf H
      go_wp2_with fail
      go_at_call 20
      (with_reducible refine (HN.out _).mono ?_)
      rintro e w2 ⟨rfl, hb⟩
      have HB2 := Lib.hid (HB.out.trans (hb.mono HB.out.size))
      clear hb c0 c1 c2 HN
      go_wp2_with fail
      go_ret2
      exact ⟨_, rfl, HNil.out _, HB2.out⟩
  · rw [if_pos hE]
    have hb0 : (E != 0) = true := by simpa using hE
    have HE := Lib.hid hE
    clear hE HA2
    go_enter Tryz.func22, Tryz.ntmps22
    go_wp2_with fail
    go_at_call 49
    (with_reducible refine H.out.mono ?_)
    rintro e w1 ⟨⟨-, h1⟩, hb, -⟩
    obtain rfl := h1 HE.out
    have HB := Lib.hid hb
    clear hb h1 H
    go_wp2_with fail
    go_ret2
    exact ⟨_, rfl, HNil.out _, HB.out⟩
end Go.Proofs.YtabdgnigmlpeaaaGreatDoor
