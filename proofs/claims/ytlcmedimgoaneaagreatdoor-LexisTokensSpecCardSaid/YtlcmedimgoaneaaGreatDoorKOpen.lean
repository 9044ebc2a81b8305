/- Parameters: a row of bytes, a list of tokens, read out of memory. -/
import Derived.Test.YtlcmedimgoaneaaGreatDoorKLaid
import Derived.Test.YtlcmedimgoaneaaGreatDoorKTok
import Derived.Test.YtlcmedimgoaneaaGreatDoorKRem
import Derived.OpenShut
import Derived.SizedLaws
import Derived.Lib.RowBridge
namespace Go.Proofs.YtlcmedimgoaneaaGreatDoor
open Go.ChangeShapes Go.WideShapes Go.ChangeAt Go.RowKit

theorem laidOut : laidOutB Tryz.prog = true := by kernel_rfl
theorem cellsTk : Tryz.prog.cellsOf 38 = 3 := by kernel_rfl
theorem cellsI' : Tryz.prog.cellsOf 3 = 1 := by kernel_rfl
theorem bytesTk : Tryz.prog.bytesOf 38 = 32 := by kernel_rfl
theorem bytesU8 : Tryz.prog.bytesOf 5 = 1 := by kernel_rfl
theorem toNat_ofNat (n : Nat) (h : n < 256) : (UInt8.ofNat n).toNat = n := by simp; omega
theorem weightsAll_mem {H : Type} (P : Program) (e : TypeId) (l : List (DataW H)) (d : DataW H) (h : d ∈ l) : ∀ n ∈ d.weights P e, n ∈ DataW.weightsAll P e l := by
  induction l with
  | nil => cases h
  | cons x l ih =>
    intro n hn
    rw [DataW.weightsAll, List.mem_append]
    rcases List.mem_cons.1 h with rfl | h
    · exact .inl hn
    · exact .inr (ih h n hn)

set_option maxRecDepth 100000 in
/-- A parameter of type []byte. -/
theorem open_bytes {H : Type} {enc : TypeId × Value → H} {W : World} {base : Nat} {v : Value} {d : DataW H} {ps : List MemPlace}
    (hval : Value.okWide Tryz.prog W .any base 22 v) (h : DataW.Trod enc Tryz.prog W 0 (fun _ => true) true 22 v d ps) (hw : ∀ n ∈ d.weights Tryz.prog 22, n ≤ reachBytes) :
    ∃ (l : Bs) (p : Option Addr) (cap : Nat), v = .slice p l.length cap ∧ BAt W 0 p l ∧ l.length ≤ cap ∧ cap ≤ 9223372036854775807 ∧ l.length ≤ 140737488351232 := by
  obtain ⟨a0, len0, c0, rfl⟩ := okWide_slice Tryz.underlying22 hval
  obtain ⟨fuel, hf⟩ := h
  rcases DataW.trod_slice Tryz.underlying22 hf with ⟨e, _⟩ | ⟨a, len, cap, elems, rest, n, rfl, e, e2, hb, hl, hm, hlen, hel, _, _⟩
  · simp [Value.cells] at e
    obtain ⟨rfl, rfl, rfl⟩ := e
    exact ⟨([] : Bs), none, 0, rfl, ⟨fun h => absurd rfl h⟩, Nat.le_refl _, Nat.zero_le _, Nat.zero_le _⟩
  · simp [Value.cells] at e
    obtain ⟨rfl, rfl, rfl⟩ := e
    simp only [Prod.mk.injEq] at e2
    obtain ⟨rfl, _⟩ := e2
    rw [DataW.weights, Tryz.underlying22] at hw
    have hsz := hw _ (List.mem_cons_self ..)
    rw [bytesU8] at hsz
    simp only [List.length_map, reachBytes] at hsz
    have key : ∀ i : Nat, ∃ c : UInt8, i < len0 → W.cells? 0 (a.add (i * 1)) 1 = some [.int .u8 c.toNat] := by
      intro i
      by_cases hi : i < len0
      · have h1 := hel i hi
        rw [c5, List.getElem?_eq_getElem (by omega)] at h1
        obtain ⟨cs', h2, h3⟩ := Option.bind_eq_some_iff.1 h1
        obtain ⟨m, rfl, _, wf⟩ := DataW.trod_int Tryz.underlying5 h3
        have hm2 : 0 ≤ m ∧ m < 256 := by
          simp [Lit.wf, IntKind.min, IntKind.max, IntKind.bits, IntKind.signed] at wf
          omega
        exact ⟨UInt8.ofNat m.toNat, fun _ => by rw [h2, toNat_ofNat _ (by omega), Int.toNat_of_nonneg hm2.1]⟩
      · exact ⟨0, fun h => absurd h hi⟩
    obtain ⟨f, hf2⟩ := Classical.axiomOfChoice key
    have hll : ((List.range len0).map f).length = len0 := by simp
    refine ⟨(List.range len0).map f, some a, c0, by rw [hll], ⟨fun hne => ?_⟩, by rw [hll]; exact hl, by unfold maxLen at hm; omega, by rw [hll]; omega⟩
    have h0 : 0 < len0 := by
      refine Nat.pos_of_ne_zero fun e => hne ?_
      rw [e]; rfl
    obtain ⟨b, off, spot⟩ := a
    have hc0 := World.cells?_some (hf2 0 h0)
    have hspot : spot = none := by simpa [Addr.add] using World.cell?_spot (hc0.2.2 0 (by omega))
    subst hspot
    have hblk := World.block_lt_of_cell? _ _ (hc0.2.2 0 (by omega))
    rw [addr_add, addr_add] at hblk
    refine ⟨b, off, rfl, Nat.zero_le _, hblk, fun i hi => ?_⟩
    rw [hll] at hi
    have g0 := (World.cells?_some (hf2 i hi)).2.2 0 (by omega)
    rw [addr_add, addr_add, Nat.mul_one] at g0
    simp only [List.getElem_map, List.getElem_range]
    exact g0

set_option maxRecDepth 100000 in
/-- A parameter of type []Token. -/
theorem open_tokens {H : Type} {enc : TypeId × Value → H} {W : World} {base : Nat} {v : Value} {d : DataW H} {ps : List MemPlace}
    (hval : Value.okWide Tryz.prog W .any base 24 v) (h : DataW.Trod enc Tryz.prog W 0 (fun _ => true) true 24 v d ps) (hw : ∀ n ∈ d.weights Tryz.prog 24, n ≤ reachBytes) :
    ∃ (L : List Tok) (p : Option Addr) (cap : Nat), v = .slice p L.length cap ∧ TAt W 0 p L ∧ L.length ≤ cap ∧ cap ≤ 9223372036854775807 := by
  obtain ⟨a0, len0, c0, rfl⟩ := okWide_slice Tryz.underlying24 hval
  obtain ⟨fuel, hf⟩ := h
  rcases DataW.trod_slice Tryz.underlying24 hf with ⟨e, _⟩ | ⟨a, len, cap, elems, rest, n, rfl, e, e2, hb, hl, hm, hlen, hel, _, _⟩
  · simp [Value.cells] at e
    obtain ⟨rfl, rfl, rfl⟩ := e
    exact ⟨[], none, 0, rfl, ⟨by simp, by simp, fun h => absurd rfl h⟩, Nat.le_refl _, Nat.zero_le _⟩
  · simp [Value.cells] at e
    obtain ⟨rfl, rfl, rfl⟩ := e
    simp only [Prod.mk.injEq] at e2
    obtain ⟨rfl, _⟩ := e2
    rw [DataW.weights, Tryz.underlying24] at hw
    have hsz := hw _ (List.mem_cons_self ..)
    rw [bytesTk] at hsz
    simp only [List.length_map, reachBytes] at hsz
    have key : ∀ i : Nat, ∃ x : Tok, i < len0 → W.cells? 0 (a.add (i * 3)) 3 = some [.int .i64 x.k, .string (S x.t), .int .i64 x.a] ∧ x.t.length ≤ 140737488351232 := by
      intro i
      by_cases hi : i < len0
      · have h1 := hel i hi
        rw [cellsTk, List.getElem?_eq_getElem (by omega)] at h1
        obtain ⟨cs', h2, h3⟩ := Option.bind_eq_some_iff.1 h1
        obtain ⟨xs, m, e3, e4, hcl, hxl, hg⟩ := DataW.trod_struct Tryz.underlying38 h3
        rw [cellsTk] at hcl
        match cs', hcl with
        | [u0, u1, u2], _ =>
          have g0 := hg 0 _ rfl
          have g1 := hg 1 _ rfl
          have g2 := hg 2 _ rfl
          match xs, hxl with
          | [y0, y1, y2], _ =>
            simp [cellsI', c9] at g0 g1 g2
            obtain ⟨n0, e0, _, _⟩ := DataW.trod_int Tryz.underlying3 g0
            obtain ⟨s, e1, x1, _⟩ := DataW.trod_string Tryz.underlying9 g1
            obtain ⟨n2, e2', _, _⟩ := DataW.trod_int Tryz.underlying3 g2
            have hwm : ∀ m ∈ (elems[i]'(by omega)).1.weights Tryz.prog 38, m ≤ reachBytes := fun m hmem => by
              refine hw m (List.mem_cons_of_mem _ (List.mem_append_left _ ?_))
              exact weightsAll_mem Tryz.prog 38 _ _ (List.mem_map.2 ⟨_, List.getElem_mem _, rfl⟩) m hmem
            have hws : s.size ≤ 140737488351232 := by
              rw [show (elems[i]'(by omega)).1 = .agg _ from congrArg Prod.fst e4] at hwm
              rw [DataW.weights, Tryz.underlying38] at hwm
              have := hwm s.data.toList.length (DataW.weights_mem_each (j := 1) (t := 9) (d := y1.1) rfl rfl _ (by rw [x1]; simp [DataW.weights]))
              rw [Array.length_toList] at this
              simpa [reachBytes] using this
            have e0' : u0 = .int .i64 n0 := by simpa using e0
            have e1' : u1 = .string s := by simpa using e1
            have e2'' : u2 = .int .i64 n2 := by simpa using e2'
            subst e0' e1' e2''
            exact ⟨⟨n0, s.data.toList, n2⟩, fun _ => ⟨by rw [h2, S_list], by rw [Array.length_toList]; exact hws⟩⟩
      · exact ⟨⟨0, [], 0⟩, fun h => absurd h hi⟩
    obtain ⟨f, hf2⟩ := Classical.axiomOfChoice key
    have hll : ((List.range len0).map f).length = len0 := by simp
    refine ⟨(List.range len0).map f, some a, c0, by rw [hll], ⟨by rw [hll]; omega, fun x hx => ?_, fun hne => ?_⟩, by rw [hll]; exact hl, by unfold maxLen at hm; omega⟩
    · obtain ⟨i, hi, rfl⟩ := List.mem_map.1 hx
      exact (hf2 i (List.mem_range.1 hi)).2
    have h0 : 0 < len0 := by
      refine Nat.pos_of_ne_zero fun e => hne ?_
      rw [e]; rfl
    obtain ⟨b, off, spot⟩ := a
    have hc0 := World.cells?_some (hf2 0 h0).1
    have hspot : spot = none := by simpa [Addr.add] using World.cell?_spot (hc0.2.2 0 (by omega))
    subst hspot
    have hblk := World.block_lt_of_cell? _ _ (hc0.2.2 0 (by omega))
    rw [addr_add, addr_add] at hblk
    refine ⟨b, off, rfl, Nat.zero_le _, hblk, fun i hi => ?_⟩
    rw [hll] at hi
    have hci := (World.cells?_some (hf2 i hi).1).2.2
    have g0 := hci 0 (by omega)
    have g1 := hci 1 (by omega)
    have g2 := hci 2 (by omega)
    rw [addr_add, addr_add] at g0 g1 g2
    simp only [List.getElem_map, List.getElem_range]
    exact ⟨g0, g1, g2⟩

/-- A row of bytes of the call's own, as it lies in memory. -/
theorem Row.reads {w : World} {lo : Nat} {v : Value} {bs : Bs} (h : Row w lo v bs) : ∃ p cap, v = .slice p bs.length cap ∧ BAt w lo p bs := by
  rcases own_cell h with ⟨hv, hn⟩ | ⟨g, cap, hv, hB, hg, hc, hc2, hx⟩
  · have : bs = [] := List.length_eq_zero_iff.1 hn
    subst this
    exact ⟨none, 0, hv, ⟨fun h => absurd rfl h⟩⟩
  · refine ⟨_, cap, hv, ⟨fun _ => ⟨g, 0, rfl, hB, hg, fun i hi => ?_⟩⟩⟩
    rw [Nat.zero_add]
    exact hx _ _ (by rw [List.getElem?_map, List.getElem?_eq_getElem hi]; rfl)
/-- The tokens of a text, as they lie. -/
theorem reads_tokens {w : World} {B : Nat} {v : Value} {src : Bs} (hs : src.length ≤ 100000) (h : TRow w B v ((tokens src).1.map Tk.tok)) : ∃ p cap, v = .slice p (tokens src).1.length cap ∧ TAt w B p ((tokens src).1.map Tk.tok) ∧ (tokens src).1.length ≤ cap ∧ cap ≤ 9223372036854775807 := by
  obtain ⟨h1, h2⟩ := tokens_small src
  obtain ⟨p, cap, hv, ht, hc, hm, _⟩ := h.reads (by rw [List.length_map]; omega) (by
    intro x hx
    obtain ⟨y, hy, rfl⟩ := List.mem_map.1 hx
    have := h2 y hy
    show y.t.length ≤ _
    omega)
  rw [List.length_map] at hv hc
  exact ⟨p, cap, hv, ht, hc, hm⟩
end Go.Proofs.YtlcmedimgoaneaaGreatDoor
