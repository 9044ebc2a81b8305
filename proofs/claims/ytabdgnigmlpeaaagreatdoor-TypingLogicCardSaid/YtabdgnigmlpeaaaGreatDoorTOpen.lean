/- Parameters: a condition, a list of steps, an environment, read out of memory. -/
import Derived.Test.YtabdgnigmlpeaaaGreatDoorTLaw3
import Derived.ProofKit
import Derived.MakeChecks
import Derived.ChangeSame
import Derived.Lib.LaidU8
import Derived.OpenShut
import Derived.SizedLaws
import Derived.Lib.RowBridge
namespace Go.Proofs.YtabdgnigmlpeaaaGreatDoor
open Go.ChangeShapes Go.WideShapes Go.ChangeAt Go.RowKit

theorem addr_add (b o j : Nat) : (⟨b, o, none⟩ : Addr).add j = ⟨b, o + j, none⟩ := by
  unfold Addr.add
  split <;> simp_all
theorem laidOut : laidOutB Tryz.prog = true := by kernel_rfl
theorem cellsCd : Tryz.prog.cellsOf 40 = 4 := by kernel_rfl
theorem cellsSt : Tryz.prog.cellsOf 84 = 8 := by kernel_rfl
theorem cellsI' : Tryz.prog.cellsOf 3 = 1 := by kernel_rfl
theorem cellsLC : Tryz.prog.cellsOf 38 = 1 := by kernel_rfl
theorem cellsLT : Tryz.prog.cellsOf 29 = 1 := by kernel_rfl
theorem bytesC : Tryz.prog.bytesOf 40 = 48 := by kernel_rfl
theorem bytesT : Tryz.prog.bytesOf 84 = 112 := by kernel_rfl
theorem weightsAll_mem {H : Type} (P : Program) (e : TypeId) (l : List (DataW H)) (d : DataW H) (h : d ∈ l) : ∀ n ∈ d.weights P e, n ∈ DataW.weightsAll P e l := by
  induction l with
  | nil => cases h
  | cons x l ih =>
    intro n hn
    rw [DataW.weightsAll, List.mem_append]
    rcases List.mem_cons.1 h with rfl | h
    · exact .inl hn
    · exact .inr (ih h n hn)

/-- Four cells that read as a condition. -/
def OpenC (fuel : Nat) : Prop := ∀ (H : Type) (enc : TypeId × Value → H) (W : World) (cs : List Value) (x : DataW H × List MemPlace),
  DataW.trod enc Tryz.prog W 0 (fun _ => true) true fuel 40 cs = some x → (∀ n ∈ x.1.weights Tryz.prog 40, n ≤ reachBytes) →
  ∃ c p cap, cs = [.int .i64 c.k, .int .i64 c.v, .int .i64 c.n, .slice p c.ps.length cap] ∧ CdIn W (fun _ => True) c p cap

set_option maxRecDepth 100000 in
/-- A slice that reads as a list of conditions. -/
theorem open_conds {fuel : Nat} (ih : ∀ n, n < fuel → OpenC n) {H : Type} {enc : TypeId × Value → H} {W : World} {cs : List Value} {x : DataW H × List MemPlace}
    (h : DataW.trod enc Tryz.prog W 0 (fun _ => true) true fuel 38 cs = some x) (hw : ∀ n ∈ x.1.weights Tryz.prog 38, n ≤ reachBytes) :
    ∃ l p cap, cs = [.slice p (l : List Cd).length cap] ∧ ∀ k v n, CdIn W (fun _ => True) (.mk k v n l) p cap := by
  rcases DataW.trod_slice Tryz.underlying38 h with ⟨rfl, rfl⟩ | ⟨a, len, cap, elems, rest, n, rfl, rfl, rfl, hb, hl, hm, hlen, hel, _, _⟩
  · exact ⟨[], none, 0, rfl, fun k v n => .mk k v n [] none 0 0 0 (fun _ => none) (fun _ => 0) (by simp) (by simp) (by simp) (fun _ => rfl) (fun h => absurd rfl h) (fun i h => by simp at h) (fun i h => by simp at h)⟩
  · rw [DataW.weights, Tryz.underlying38] at hw
    have hsz := hw _ (List.mem_cons_self ..)
    rw [bytesC] at hsz
    simp only [List.length_map, reachBytes] at hsz
    have hlen2 : len ≤ 3000000000000 := by omega
    have key : ∀ i : Nat, ∃ e : Cd × Option Addr × Nat, i < len → (W.cells? 0 (a.add (i * 4)) 4 = some [.int .i64 e.1.k, .int .i64 e.1.v, .int .i64 e.1.n, .slice e.2.1 e.1.ps.length e.2.2]) ∧ CdIn W (fun _ => True) e.1 e.2.1 e.2.2 := by
      intro i
      by_cases hi : i < len
      · have h1 := hel i hi
        rw [cellsCd, List.getElem?_eq_getElem (by omega)] at h1
        obtain ⟨cs', h2, h3⟩ := Option.bind_eq_some_iff.1 h1
        obtain ⟨v, p, c, rfl, hv⟩ := ih n (by omega) H enc W cs' _ h3 fun m hmem => by
          refine hw m (List.mem_cons_of_mem _ (List.mem_append_left _ ?_))
          exact weightsAll_mem Tryz.prog 40 _ _ (List.mem_map.2 ⟨_, List.getElem_mem _, rfl⟩) m hmem
        exact ⟨(v, p, c), fun _ => ⟨h2, hv⟩⟩
      · exact ⟨(.zero, none, 0), fun h => absurd h hi⟩
    obtain ⟨f, hf⟩ := Classical.axiomOfChoice key
    have hll : ((List.range len).map fun i => (f i).1).length = len := by simp
    refine ⟨(List.range len).map fun i => (f i).1, some a, cap, by rw [hll], fun k v n => ?_⟩
    obtain ⟨b, off, spot⟩ := a
    by_cases h0 : len = 0
    · subst h0
      exact .mk k v n _ _ cap 0 0 (fun _ => none) (fun _ => 0) (by simp) (by simp) (by unfold maxLen at hm; omega) (fun e => by cases e) (fun h => absurd rfl h) (fun i h => by simp at h) (fun i h => by simp at h)
    · have hc0 := World.cells?_some (hf 0 (by omega)).1
      have hspot : spot = none := by simpa [Addr.add] using World.cell?_spot (hc0.2.2 0 (by omega))
      subst hspot
      have hblk := World.block_lt_of_cell? _ _ (hc0.2.2 0 (by omega))
      rw [addr_add, addr_add] at hblk
      refine .mk k v n _ _ cap b off (fun i => (f i).2.1) (fun i => (f i).2.2) (by rw [hll]; omega) (by rw [hll]; exact hl) (by unfold maxLen at hm; omega) (fun e => by cases e) (fun _ => ⟨rfl, trivial, hblk⟩) (fun i hi => ?_) (fun i hi => ?_)
      · rw [hll] at hi
        have hci := (World.cells?_some (hf i hi).1).2.2
        have g0 := hci 0 (by omega)
        have g1 := hci 1 (by omega)
        have g2 := hci 2 (by omega)
        have g3 := hci 3 (by omega)
        rw [addr_add, addr_add] at g0 g1 g2 g3
        simp only [List.getElem_map, List.getElem_range]
        exact ⟨g0, g1, g2, g3⟩
      · rw [hll] at hi
        simp only [List.getElem_map, List.getElem_range]
        exact (hf i hi).2

set_option maxRecDepth 100000 in
theorem openC_all (fuel : Nat) : OpenC fuel := by
  induction fuel using Nat.strongRecOn with
  | ind fuel ih =>
    intro H enc W cs x h hw
    obtain ⟨xs, n, rfl, rfl, hl, hxl, hg⟩ := DataW.trod_struct Tryz.underlying40 h
    rw [cellsCd] at hl
    match cs, hl with
    | [u0, u1, u2, u3], _ =>
      have g0 := hg 0 _ rfl
      have g1 := hg 1 _ rfl
      have g2 := hg 2 _ rfl
      have g3 := hg 3 _ rfl
      match xs, hxl with
      | [y0, y1, y2, y3], _ =>
        simp [cellsI', cellsLC] at g0 g1 g2 g3
        obtain ⟨n0, e0, _, w0⟩ := DataW.trod_int Tryz.underlying3 g0
        obtain ⟨n1, e1, _, w1⟩ := DataW.trod_int Tryz.underlying3 g1
        obtain ⟨n2, e2, _, w2⟩ := DataW.trod_int Tryz.underlying3 g2
        rw [DataW.weights, Tryz.underlying40] at hw
        obtain ⟨l, p, cap, e3, hlat⟩ := open_conds (fun m hm => ih m (by omega)) g3 fun m hm => hw m (DataW.weights_mem_each (j := 3) (t := 38) (d := y3.1) rfl rfl m hm)
        have e0' : u0 = .int .i64 n0 := by simpa using e0
        have e1' : u1 = .int .i64 n1 := by simpa using e1
        have e2' : u2 = .int .i64 n2 := by simpa using e2
        have e3' : u3 = .slice p l.length cap := by simpa using e3
        subst e0' e1' e2' e3'
        exact ⟨.mk n0 n1 n2 l, p, cap, rfl, hlat n0 n1 n2⟩

/-- Eight cells that read as a step. -/
def OpenT (fuel : Nat) : Prop := ∀ (H : Type) (enc : TypeId × Value → H) (W : World) (cs : List Value) (x : DataW H × List MemPlace),
  DataW.trod enc Tryz.prog W 0 (fun _ => true) true fuel 84 cs = some x → (∀ n ∈ x.1.weights Tryz.prog 84, n ≤ reachBytes) →
  ∃ s y, cs = cellsS s y ∧ StIn W (fun _ => True) s y

set_option maxRecDepth 100000 in
/-- A slice that reads as a list of steps. -/
theorem open_list {fuel : Nat} (ih : ∀ n, n < fuel → OpenT n) {H : Type} {enc : TypeId × Value → H} {W : World} {cs : List Value} {x : DataW H × List MemPlace}
    (h : DataW.trod enc Tryz.prog W 0 (fun _ => true) true fuel 29 cs = some x) (hw : ∀ n ∈ x.1.weights Tryz.prog 29, n ≤ reachBytes) :
    ∃ l p cap, cs = [.slice p (l : List St).length cap] ∧ SsIn W (fun _ => True) l p cap := by
  rcases DataW.trod_slice Tryz.underlying29 h with ⟨rfl, rfl⟩ | ⟨a, len, cap, elems, rest, n, rfl, rfl, rfl, hb, hl, hm, hlen, hel, _, _⟩
  · exact ⟨[], none, 0, rfl, SsIn.nil⟩
  · rw [DataW.weights, Tryz.underlying29] at hw
    have hsz := hw _ (List.mem_cons_self ..)
    rw [bytesT] at hsz
    simp only [List.length_map, reachBytes] at hsz
    have hlen2 : len ≤ 3000000000000 := by omega
    have key : ∀ i : Nat, ∃ e : St × Loc, i < len → (W.cells? 0 (a.add (i * 8)) 8 = some (cellsS e.1 e.2)) ∧ StIn W (fun _ => True) e.1 e.2 := by
      intro i
      by_cases hi : i < len
      · have h1 := hel i hi
        rw [cellsSt, List.getElem?_eq_getElem (by omega)] at h1
        obtain ⟨cs', h2, h3⟩ := Option.bind_eq_some_iff.1 h1
        obtain ⟨s, y, rfl, hv⟩ := ih n (by omega) H enc W cs' _ h3 fun m hmem => by
          refine hw m (List.mem_cons_of_mem _ (List.mem_append_left _ ?_))
          exact weightsAll_mem Tryz.prog 84 _ _ (List.mem_map.2 ⟨_, List.getElem_mem _, rfl⟩) m hmem
        exact ⟨(s, y), fun _ => ⟨h2, hv⟩⟩
      · exact ⟨(.mk 0 0 .zero [] [], ⟨none, 0, none, 0, none, 0⟩), fun h => absurd h hi⟩
    obtain ⟨f, hf⟩ := Classical.axiomOfChoice key
    have hll : ((List.range len).map fun i => (f i).1).length = len := by simp
    refine ⟨(List.range len).map fun i => (f i).1, some a, cap, by rw [hll], ?_⟩
    obtain ⟨b, off, spot⟩ := a
    by_cases h0 : len = 0
    · subst h0
      exact .mk _ _ cap 0 0 (fun _ => ⟨none, 0, none, 0, none, 0⟩) (by simp) (by simp) (by unfold maxLen at hm; omega) (fun e => by cases e) (fun h => absurd rfl h) (fun i h => by simp at h) (fun i h => by simp at h) (fun i h => by simp at h) (fun i h => by simp at h)
    · have hc0 := World.cells?_some (hf 0 (by omega)).1
      have hspot : spot = none := by simpa [Addr.add] using World.cell?_spot (hc0.2.2 0 (by omega))
      subst hspot
      have hblk := World.block_lt_of_cell? _ _ (hc0.2.2 0 (by omega))
      rw [addr_add, addr_add] at hblk
      refine .mk _ _ cap b off (fun i => (f i).2) (by rw [hll]; omega) (by rw [hll]; exact hl) (by unfold maxLen at hm; omega) (fun e => by cases e) (fun _ => ⟨rfl, trivial, hblk⟩) (fun i hi j u hu => ?_) (fun i hi => ?_) (fun i hi => ?_) (fun i hi => ?_)
      · rw [hll] at hi
        simp only [List.getElem_map, List.getElem_range] at hu
        have hj : j < 8 := by have := (List.getElem?_eq_some_iff.1 hu).1; simpa [cellsS] using this
        have hci := (World.cells?_some (hf i hi).1).2.2 j (by omega)
        rw [addr_add, addr_add] at hci
        rw [hci]
        exact hu
      · rw [hll] at hi
        simp only [List.getElem_map, List.getElem_range]
        exact (hf i hi).2.cd
      · rw [hll] at hi
        simp only [List.getElem_map, List.getElem_range]
        exact (hf i hi).2.th
      · rw [hll] at hi
        simp only [List.getElem_map, List.getElem_range]
        exact (hf i hi).2.el

set_option maxRecDepth 100000 in
theorem openT_all (fuel : Nat) : OpenT fuel := by
  induction fuel using Nat.strongRecOn with
  | ind fuel ih =>
    intro H enc W cs x h hw
    obtain ⟨xs, n, rfl, rfl, hl, hxl, hg⟩ := DataW.trod_struct Tryz.underlying84 h
    rw [cellsSt] at hl
    match cs, hl with
    | [u0, u1, u2, u3, u4, u5, u6, u7], _ =>
      have g0 := hg 0 _ rfl
      have g1 := hg 1 _ rfl
      have g2 := hg 2 _ rfl
      have g3 := hg 3 _ rfl
      have g4 := hg 4 _ rfl
      match xs, hxl with
      | [y0, y1, y2, y3, y4], _ =>
        simp [cellsI', cellsCd, cellsLT] at g0 g1 g2 g3 g4
        obtain ⟨n0, e0, _, w0⟩ := DataW.trod_int Tryz.underlying3 g0
        obtain ⟨n1, e1, _, w1⟩ := DataW.trod_int Tryz.underlying3 g1
        rw [DataW.weights, Tryz.underlying84] at hw
        obtain ⟨c, pc, cc, e2, hcd⟩ := openC_all _ H enc W _ _ g2 fun m hm => hw m (DataW.weights_mem_each (j := 2) (t := 40) (d := y2.1) rfl rfl m hm)
        obtain ⟨th, pt, ct, e3, hth⟩ := open_list (fun m hm => ih m (by omega)) g3 fun m hm => hw m (DataW.weights_mem_each (j := 3) (t := 29) (d := y3.1) rfl rfl m hm)
        obtain ⟨el, pe, ce, e4, hel⟩ := open_list (fun m hm => ih m (by omega)) g4 fun m hm => hw m (DataW.weights_mem_each (j := 4) (t := 29) (d := y4.1) rfl rfl m hm)
        refine ⟨.mk n0 n1 c th el, ⟨pc, cc, pt, ct, pe, ce⟩, ?_, ⟨hcd, hth, hel⟩⟩
        simp at e0 e1 e2 e3 e4
        obtain ⟨rfl, rfl, rfl, rfl⟩ := e2
        subst e0 e1 e3 e4
        rfl

set_option maxRecDepth 100000 in
/-- A parameter of type []Step. -/
theorem open_steps {H : Type} {enc : TypeId × Value → H} {W : World} {base : Nat} {v : Value} {d : DataW H} {ps : List MemPlace}
    (hval : Value.okWide Tryz.prog W .any base 29 v) (h : DataW.Trod enc Tryz.prog W 0 (fun _ => true) true 29 v d ps) (hw : ∀ n ∈ d.weights Tryz.prog 29, n ≤ reachBytes) :
    ∃ (l : List St) (p : Option Addr) (cap : Nat), v = .slice p l.length cap ∧ SsIn W (fun _ => True) l p cap := by
  obtain ⟨a0, len, c, rfl⟩ := okWide_slice Tryz.underlying29 hval
  obtain ⟨fuel, hf⟩ := h
  obtain ⟨l, p, cap, e, hl⟩ := open_list (fun m _ => openT_all m) hf hw
  simp [Value.cells] at e
  obtain ⟨rfl, rfl, rfl⟩ := e
  exact ⟨l, _, _, rfl, hl⟩
theorem cellsEn : Tryz.prog.cellsOf 42 = 3 := by kernel_rfl
set_option maxRecDepth 100000 in
/-- A parameter of type Cond. -/
theorem open_cond {H : Type} {enc : TypeId × Value → H} {W : World} {base : Nat} {v : Value} {d : DataW H} {ps : List MemPlace}
    (hval : Value.okWide Tryz.prog W .any base 40 v) (h : DataW.Trod enc Tryz.prog W 0 (fun _ => true) true 40 v d ps) (hw : ∀ n ∈ d.weights Tryz.prog 40, n ≤ reachBytes) :
    ∃ (c : Cd) (p : Option Addr) (cap : Nat), v = cV c p cap ∧ CdIn W (fun _ => True) c p cap := by
  obtain ⟨cs, rfl, hsz⟩ := okWide_struct Tryz.underlying40 hval
  obtain ⟨fuel, hf⟩ := h
  obtain ⟨c, p, cap, e, hc⟩ := openC_all _ H enc W _ _ hf hw
  have e2 : cs.toList = [.int .i64 c.k, .int .i64 c.v, .int .i64 c.n, .slice p c.ps.length cap] := by simpa [Value.cells] using e
  obtain ⟨l⟩ := cs
  simp only at e2
  subst e2
  exact ⟨c, p, cap, rfl, hc⟩
set_option maxRecDepth 100000 in
/-- A parameter of type Env. -/
theorem open_env {H : Type} {enc : TypeId × Value → H} {W : World} {base : Nat} {v : Value} {d : DataW H} {ps : List MemPlace}
    (hval : Value.okWide Tryz.prog W .any base 42 v) (h : DataW.Trod enc Tryz.prog W 0 (fun _ => true) true 42 v d ps) :
    ∃ x : En, v = envV x := by
  obtain ⟨cs, rfl, hsz⟩ := okWide_struct Tryz.underlying42 hval
  obtain ⟨fuel, hf⟩ := h
  obtain ⟨xs, k, _, _, hl, hxl, hg⟩ := DataW.trod_struct Tryz.underlying42 hf
  rw [cellsEn] at hsz
  obtain ⟨l⟩ := cs
  match l, hsz with
  | [u0, u1, u2], _ =>
    have g0 := hg 0 _ rfl
    have g1 := hg 1 _ rfl
    have g2 := hg 2 _ rfl
    simp [Value.cells, cellsI'] at g0 g1 g2
    match xs, hxl with
    | [y0, y1, y2], _ =>
      simp at g0 g1 g2
      obtain ⟨n0, e0, _, w0⟩ := DataW.trod_int Tryz.underlying3 g0
      obtain ⟨n1, e1, _, w1⟩ := DataW.trod_int Tryz.underlying3 g1
      obtain ⟨n2, e2, _, w2⟩ := DataW.trod_int Tryz.underlying3 g2
      have e0' : u0 = .int .i64 n0 := by simpa using e0
      have e1' : u1 = .int .i64 n1 := by simpa using e1
      have e2' : u2 = .int .i64 n2 := by simpa using e2
      subst e0' e1' e2'
      exact ⟨⟨n0, n1, n2⟩, rfl⟩
end Go.Proofs.YtabdgnigmlpeaaaGreatDoor
