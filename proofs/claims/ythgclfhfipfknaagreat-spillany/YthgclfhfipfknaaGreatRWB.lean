/- A row of pages that came in as an argument. -/
import Derived.Test.YthgclfhfipfknaaGreatRWA
import Derived.Test.YthgclfhfipfknaaGreatTA
namespace Go.Proofs.YthgclfhfipfknaaGreat
open Go.ChangeShapes Go.WideShapes Go.ChangeAt Go.RowKit Go.Deep
set_option linter.unusedVariables false

/-- A row of pages that came in. -/
def PgP (w : World) (p : Option Addr) (len : Nat) (Q : Nat → List UInt8) : Prop := 0 < len → ∃ b o, p = some ⟨b, o, none⟩ ∧ ∀ i, i < len → (Q i).length = 256 ∧ w.rangeAt b (o + i * 256) (bcl (Q i))
theorem PgP.later {w w' : World} {p : Option Addr} {len : Nat} {Q : Nat → List UInt8} (h : PgP w p len Q) (hb : Below w.heap.size w w') : PgP w' p len Q := fun h0 => let ⟨b, o, e, g⟩ := h h0; ⟨b, o, e, fun i hi => ⟨(g i hi).1, fun j v hj => cell_later1 hb ((g i hi).2 j v hj)⟩⟩
theorem cellsPg : Tryz.prog.cellsOf 59 = 256 := by kernel_rfl
theorem cellsU8 : Tryz.prog.cellsOf 5 = 1 := by kernel_rfl
theorem pageOf_trod {H : Type} {enc : TypeId × Value → H} {w : World} {fuel : Nat} {cs : List Value} {x : DataW H × List MemPlace} (hl : cs.length = 256) (h : DataW.trod enc Tryz.prog w 0 (fun _ => true) true fuel 59 cs = some x) : ∃ l : List UInt8, l.length = 256 ∧ cs = bcl l := by
  obtain ⟨xs, m, _, _, hlen, hxl, hx⟩ := DataW.trod_array page_arr h
  have each : ∀ i, i < 256 → ∃ b : UInt8, cs[i]? = some (.int .u8 (b.toNat : Int)) := by
    intro i hi
    have hxi := hx i hi
    rw [cellsU8, Nat.mul_one, List.getElem?_eq_getElem (by omega)] at hxi
    obtain ⟨n, hn, _, wf⟩ := DataW.trod_int Tryz.underlying5 hxi
    have hc : cs[i]? = some (.int .u8 n) := by
      have : ((cs.drop i).take 1) = [Value.int .u8 n] := hn
      have h2 := congrArg (fun l => l[0]?) this
      simpa [List.getElem?_take, List.getElem?_drop] using h2
    have e1 : IntKind.u8.min = 0 := by decide
    have e2 : IntKind.u8.max = 255 := by decide
    simp only [Lit.wf, Bool.and_eq_true, decide_eq_true_eq, e1, e2] at wf
    refine ⟨UInt8.ofNat n.toNat, ?_⟩
    rw [hc, UInt8.toNat_ofNat']
    congr 2
    omega
  obtain ⟨q, hq⟩ := choose_lt each
  refine ⟨(List.range 256).map q, by simp, ?_⟩
  apply List.ext_getElem?
  intro i
  by_cases hi : i < 256
  · rw [hq i hi]
    simp [bcl, hi]
  · rw [List.getElem?_eq_none (by omega), List.getElem?_eq_none (by simp [bcl]; omega)]
set_option maxRecDepth 100000 in
theorem open_pagesR {H : Type} {enc : TypeId × Value → H} {w : World} {fuel : Nat} {cs : List Value} {x : DataW H × List MemPlace} (h : DataW.trod enc Tryz.prog w 0 (fun _ => true) true fuel 56 cs = some x) :
    ∃ (p : Option Addr) (len cap : Nat) (Q : Nat → List UInt8), cs = [.slice p len cap] ∧ PgP w p len Q := by
  rcases open_slice Tryz.underlying56 h with h0 | ⟨a, len, cap, m, n, D, Pl, rfl, hb, hl, hm, hmm, rfl, hx⟩
  · exact ⟨none, 0, 0, fun _ => [], h0.1, fun h => by omega⟩
  simp only [if_true] at hmm
  by_cases h0 : len = 0
  · subst h0; exact ⟨some a, 0, cap, fun _ => [], rfl, fun h => by omega⟩
  have each : ∀ i, i < m → ∃ l : List UInt8, l.length = 256 ∧ ∀ j, j < 256 → w.cell? (a.add (i * 256 + j)) = (bcl l)[j]? := by
    intro i hi
    obtain ⟨cs', h1, h2⟩ := hx i hi
    rw [cellsPg] at h1
    obtain ⟨_, hlen, hcell⟩ := World.cells?_some h1
    obtain ⟨l, hl, rfl⟩ := pageOf_trod hlen h2
    refine ⟨l, hl, fun j hj => ?_⟩
    have := hcell j hj
    rw [add_add] at this
    exact this
  obtain ⟨q, hq⟩ := choose_lt each
  obtain ⟨b, o, spot⟩ := a
  have hspot : spot = none := by
    have h1 := (hq 0 (by omega)).2 0 (by omega)
    have h2 : (bcl (q 0))[0]? ≠ none := by
      rw [List.getElem?_eq_getElem (by have := (hq 0 (by omega)).1; simp [bcl]; omega)]; simp
    cases hc : w.cell? (Addr.add ⟨b, o, spot⟩ (0 * 256 + 0)) with
    | none => rw [hc] at h1; exact absurd h1.symm h2
    | some v => simpa [Addr.add] using World.cell?_spot hc
  subst hspot
  refine ⟨some ⟨b, o, none⟩, len, cap, q, rfl, fun _ => ⟨b, o, rfl, fun i hi => ⟨(hq i (by omega)).1, fun j v hv => ?_⟩⟩⟩
  have hj : j < 256 := by
    refine Nat.lt_of_not_le fun hc => ?_
    have := (hq i (by omega)).1
    rw [List.getElem?_eq_none (by simp [bcl]; omega)] at hv
    cases hv
  have c0 := (hq i (by omega)).2 j hj
  rw [add_plain, hv] at c0
  rw [Nat.add_assoc]
  exact c0
end Go.Proofs.YthgclfhfipfknaaGreat
