/- Parameters: a value, a list of values, a row of bytes, read out of memory. -/
import Derived.Test.YtopkpdaingmmeaaVFew
import Derived.ProofKit
import Derived.OpenShut
import Derived.SizedLaws
import Derived.Lib.RowBridge
import Derived.Lib.SmallJoins
namespace Go.Proofs.Ytopkpdaingmmeaa
open Go.ChangeShapes Go.WideShapes Go.ChangeAt Go.RowKit Go.Deep

theorem own' : ownKnob Try.prog.godebug = none := by kernel_rfl
theorem laidOut : laidOutB Try.prog = true := by kernel_rfl
theorem cellsV : Try.prog.cellsOf 24 = 4 := by kernel_rfl
theorem cellsI : Try.prog.cellsOf 3 = 1 := by kernel_rfl
theorem cellsS : Try.prog.cellsOf 9 = 1 := by kernel_rfl
theorem cellsL : Try.prog.cellsOf 22 = 1 := by kernel_rfl
theorem cellsU : Try.prog.cellsOf 5 = 1 := by kernel_rfl
theorem bytesV : Try.prog.bytesOf 24 = 56 := by kernel_rfl
theorem bytesU : Try.prog.bytesOf 5 = 1 := by kernel_rfl

theorem weightsAll_mem {H : Type} (P : Program) (e : TypeId) (l : List (DataW H)) (d : DataW H) (h : d ∈ l) : ∀ n ∈ d.weights P e, n ∈ DataW.weightsAll P e l := by
  induction l with
  | nil => cases h
  | cons x l ih =>
    intro n hn
    rw [DataW.weightsAll, List.mem_append]
    rcases List.mem_cons.1 h with rfl | h
    · exact .inl hn
    · exact .inr (ih h n hn)

/-- Four cells that read as a value. -/
def OpenV (fuel : Nat) : Prop := ∀ (H : Type) (enc : TypeId × Value → H) (W : World) (cs : List Value) (x : DataW H × List MemPlace),
  DataW.trod enc Try.prog W 0 (fun _ => true) true fuel 24 cs = some x → (∀ n ∈ x.1.weights Try.prog 24, n ≤ reachBytes) →
  ∃ v p cap, cs = [.int .i64 v.k, .int .i64 v.n, .string v.s, .slice p v.l.length cap] ∧ VAt W 0 v p cap

/-- A slice that reads as a list of values. -/
theorem open_list {fuel : Nat} (ih : ∀ n, n < fuel → OpenV n) {H : Type} {enc : TypeId × Value → H} {W : World} {cs : List Value} {x : DataW H × List MemPlace}
    (h : DataW.trod enc Try.prog W 0 (fun _ => true) true fuel 22 cs = some x) (hw : ∀ n ∈ x.1.weights Try.prog 22, n ≤ reachBytes) :
    ∃ l p cap, cs = [.slice p (l : List V).length cap] ∧ LAt W 0 l p cap := by
  rcases DataW.trod_slice Try.underlying22 h with ⟨rfl, rfl⟩ | ⟨a, len, cap, elems, rest, n, rfl, rfl, rfl, hb, hl, hm, hlen, hel, _, _⟩
  · exact ⟨[], none, 0, rfl, VAt.leaf ⟨by decide, by decide⟩ ⟨by decide, by decide⟩ (by decide) (fun _ => rfl) (by decide)⟩
  · rw [DataW.weights, Try.underlying22] at hw
    have hsz := hw _ (List.mem_cons_self ..)
    rw [bytesV] at hsz
    simp only [List.length_map, reachBytes] at hsz
    have hlen2 : len ≤ 2600000000000 := by omega
    have key : ∀ i : Nat, ∃ e : V × Option Addr × Nat, i < len → (W.cells? 0 (a.add (i * 4)) 4 = some [.int .i64 e.1.k, .int .i64 e.1.n, .string e.1.s, .slice e.2.1 e.1.l.length e.2.2]) ∧ VAt W 0 e.1 e.2.1 e.2.2 := by
      intro i
      by_cases hi : i < len
      · have h1 := hel i hi
        rw [cellsV, List.getElem?_eq_getElem (by omega)] at h1
        obtain ⟨cs', h2, h3⟩ := Option.bind_eq_some_iff.1 h1
        obtain ⟨v, p, c, rfl, hv⟩ := ih n (by omega) H enc W cs' _ h3 fun m hmem => by
          refine hw m (List.mem_cons_of_mem _ (List.mem_append_left _ ?_))
          exact weightsAll_mem Try.prog 24 _ _ (List.mem_map.2 ⟨_, List.getElem_mem _, rfl⟩) m hmem
        exact ⟨(v, p, c), fun _ => ⟨h2, hv⟩⟩
      · exact ⟨(.mk 0 0 ⟨#[]⟩ [], none, 0), fun h => absurd h hi⟩
    obtain ⟨f, hf⟩ := Classical.axiomOfChoice key
    have hll : ((List.range len).map fun i => (f i).1).length = len := by simp
    refine ⟨(List.range len).map fun i => (f i).1, some a, cap, by rw [hll], ?_⟩
    obtain ⟨b, off, spot⟩ := a
    by_cases h0 : len = 0
    · subst h0
      exact VAt.leaf ⟨by decide, by decide⟩ ⟨by decide, by decide⟩ (by decide) (fun e => by cases e) (by unfold maxLen at hm; omega)
    · have hc0 := World.cells?_some (hf 0 (by omega)).1
      have hspot : spot = none := by simpa [Addr.add] using World.cell?_spot (hc0.2.2 0 (by omega))
      subst hspot
      have hblk := World.block_lt_of_cell? _ _ (hc0.2.2 0 (by omega))
      rw [add_plain, add_plain] at hblk
      refine .mk 0 0 _ _ _ cap b off (fun i => (f i).2.1) (fun i => (f i).2.2) ⟨by decide, by decide⟩ ⟨by decide, by decide⟩ (by decide) (by rw [hll]; exact hlen2) (by rw [hll]; exact hl) (by unfold maxLen at hm; omega) (fun e => by cases e) (fun _ => ⟨rfl, Nat.zero_le _, hblk⟩) (fun i hi => ?_) (fun i hi => ?_)
      · rw [hll] at hi
        have hci := (World.cells?_some (hf i hi).1).2.2
        have g0 := hci 0 (by omega)
        have g1 := hci 1 (by omega)
        have g2 := hci 2 (by omega)
        have g3 := hci 3 (by omega)
        rw [add_plain, add_plain] at g0 g1 g2 g3
        simp only [List.getElem_map, List.getElem_range]
        exact ⟨g0, g1, g2, g3⟩
      · rw [hll] at hi
        simp only [List.getElem_map, List.getElem_range]
        exact (hf i hi).2

theorem openV_all (fuel : Nat) : OpenV fuel := by
  induction fuel using Nat.strongRecOn with
  | ind fuel ih =>
    intro H enc W cs x h hw
    obtain ⟨xs, n, rfl, rfl, hl, hxl, hg⟩ := DataW.trod_struct Try.underlying24 h
    rw [cellsV] at hl
    match cs, hl with
    | [u0, u1, u2, u3], _ =>
      have g0 := hg 0 _ rfl
      have g1 := hg 1 _ rfl
      have g2 := hg 2 _ rfl
      have g3 := hg 3 _ rfl
      match xs, hxl with
      | [y0, y1, y2, y3], _ =>
        simp [cellsI, cellsS, cellsL] at g0 g1 g2 g3
        obtain ⟨n0, e0, _, w0⟩ := DataW.trod_int Try.underlying3 g0
        obtain ⟨n1, e1, _, w1⟩ := DataW.trod_int Try.underlying3 g1
        obtain ⟨s, e2, x2, _⟩ := DataW.trod_string Try.underlying9 g2
        rw [DataW.weights, Try.underlying24] at hw
        have hws : s.size ≤ 140737488351232 := by
          have := hw s.data.toList.length (DataW.weights_mem_each (j := 2) (t := 9) (d := y2.1) rfl rfl _ (by rw [x2]; simp [DataW.weights]))
          rw [Array.length_toList] at this
          simpa [reachBytes] using this
        obtain ⟨l, p, cap, e3, hlat⟩ := open_list (fun m hm => ih m (by omega)) g3 fun m hm => hw m (DataW.weights_mem_each (j := 3) (t := 22) (d := y3.1) rfl rfl m hm)
        have e0' : u0 = .int .i64 n0 := by simpa using e0
        have e1' : u1 = .int .i64 n1 := by simpa using e1
        have e2' : u2 = .string s := by simpa using e2
        have e3' : u3 = .slice p l.length cap := by simpa using e3
        subst e0' e1' e2' e3'
        exact ⟨.mk n0 n1 s l, p, cap, rfl, LAt.value hlat (bounds_i64 w0) (bounds_i64 w1) hws⟩

/-- A parameter of type Value. -/
theorem open_value {H : Type} {enc : TypeId × Value → H} {W : World} {base : Nat} {v : Value} {d : DataW H} {ps : List MemPlace}
    (hval : Value.okWide Try.prog W .any base 24 v) (h : DataW.Trod enc Try.prog W 0 (fun _ => true) true 24 v d ps) (hw : ∀ n ∈ d.weights Try.prog 24, n ≤ reachBytes) :
    ∃ (u : V) (p : Option Addr) (cap : Nat), v = vV u p cap ∧ VAt W 0 u p cap := by
  obtain ⟨cs, rfl, hsz⟩ := okWide_struct Try.underlying24 hval
  obtain ⟨fuel, hf⟩ := h
  obtain ⟨u, p, cap, e, hu⟩ := openV_all fuel H enc W _ _ hf hw
  rw [cellsV] at hsz
  obtain ⟨l⟩ := cs
  match l, hsz with
  | [u0, u1, u2, u3], _ =>
    simp [Value.cells] at e
    obtain ⟨rfl, rfl, rfl, rfl⟩ := e
    exact ⟨u, p, cap, rfl, hu⟩
/-- A parameter of type []Value. -/
theorem open_values {H : Type} {enc : TypeId × Value → H} {W : World} {base : Nat} {v : Value} {d : DataW H} {ps : List MemPlace}
    (hval : Value.okWide Try.prog W .any base 22 v) (h : DataW.Trod enc Try.prog W 0 (fun _ => true) true 22 v d ps) (hw : ∀ n ∈ d.weights Try.prog 22, n ≤ reachBytes) :
    ∃ (l : List V) (p : Option Addr) (cap : Nat), v = .slice p l.length cap ∧ LAt W 0 l p cap := by
  obtain ⟨a0, len, c, rfl⟩ := okWide_slice Try.underlying22 hval
  obtain ⟨fuel, hf⟩ := h
  obtain ⟨l, p, cap, e, hl⟩ := open_list (fun m _ => openV_all m) hf hw
  simp [Value.cells] at e
  obtain ⟨rfl, rfl, rfl⟩ := e
  exact ⟨l, _, _, rfl, hl⟩
/-- A parameter of type []byte. -/
theorem open_bytes {H : Type} {enc : TypeId × Value → H} {W : World} {base : Nat} {v : Value} {d : DataW H} {ps : List MemPlace}
    (hval : Value.okWide Try.prog W .any base 27 v) (h : DataW.Trod enc Try.prog W 0 (fun _ => true) true 27 v d ps) (hw : ∀ n ∈ d.weights Try.prog 27, n ≤ reachBytes) :
    ∃ (l : List UInt8) (p : Option Addr) (cap : Nat), v = .slice p l.length cap ∧ BAt W 0 p l ∧ l.length ≤ cap ∧ cap ≤ 9223372036854775807 := by
  obtain ⟨a0, len0, c0, rfl⟩ := okWide_slice Try.underlying27 hval
  obtain ⟨fuel, hf⟩ := h
  rcases DataW.trod_slice Try.underlying27 hf with ⟨e, _⟩ | ⟨a, len, cap, elems, rest, n, rfl, e, e2, hb, hl, hm, hlen, hel, _, _⟩
  · simp [Value.cells] at e
    obtain ⟨rfl, rfl, rfl⟩ := e
    exact ⟨[], none, 0, rfl, BAt.nil, Nat.le_refl _, by decide⟩
  · simp [Value.cells] at e
    obtain ⟨rfl, rfl, rfl⟩ := e
    simp only [Prod.mk.injEq] at e2
    obtain ⟨rfl, _⟩ := e2
    rw [DataW.weights, Try.underlying27] at hw
    have hsz := hw _ (List.mem_cons_self ..)
    rw [bytesU] at hsz
    simp only [List.length_map, reachBytes] at hsz
    have key : ∀ i : Nat, ∃ c : UInt8, i < len0 → W.cells? 0 (a.add (i * 1)) 1 = some [.int .u8 c.toNat] := by
      intro i
      by_cases hi : i < len0
      · have h1 := hel i hi
        rw [cellsU, List.getElem?_eq_getElem (by omega)] at h1
        obtain ⟨cs', h2, h3⟩ := Option.bind_eq_some_iff.1 h1
        obtain ⟨m, rfl, _, wf⟩ := DataW.trod_int Try.underlying5 h3
        have hm2 : 0 ≤ m ∧ m < 256 := by
          simp [Lit.wf, IntKind.min, IntKind.max, IntKind.bits, IntKind.signed] at wf
          omega
        exact ⟨UInt8.ofNat m.toNat, fun _ => by rw [h2, toNat_ofNat _ (by omega), Int.toNat_of_nonneg hm2.1]⟩
      · exact ⟨0, fun h => absurd h hi⟩
    obtain ⟨f, hf2⟩ := Classical.axiomOfChoice key
    have hll : ((List.range len0).map f).length = len0 := by simp
    refine ⟨(List.range len0).map f, some a, c0, by rw [hll], ⟨by rw [hll]; omega, fun hne => ?_⟩, by rw [hll]; exact hl, by unfold maxLen at hm; omega⟩
    have h0 : 0 < len0 := by
      refine Nat.pos_of_ne_zero fun e => hne ?_
      rw [e]; rfl
    obtain ⟨b, off, spot⟩ := a
    have hc0 := World.cells?_some (hf2 0 h0)
    have hspot : spot = none := by simpa [Addr.add] using World.cell?_spot (hc0.2.2 0 (by omega))
    subst hspot
    have hblk := World.block_lt_of_cell? _ _ (hc0.2.2 0 (by omega))
    rw [add_plain, add_plain] at hblk
    refine ⟨b, off, rfl, Nat.zero_le _, hblk, fun i hi => ?_⟩
    rw [hll] at hi
    have g0 := (World.cells?_some (hf2 i hi)).2.2 0 (by omega)
    rw [add_plain, add_plain, Nat.mul_one] at g0
    simp only [List.getElem_map, List.getElem_range]
    exact g0
end Go.Proofs.Ytopkpdaingmmeaa
