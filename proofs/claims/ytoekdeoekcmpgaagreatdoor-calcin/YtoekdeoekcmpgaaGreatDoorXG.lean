/- A row of values as an argument, opened. -/
import Derived.Test.YtoekdeoekcmpgaaGreatDoorCE
import Derived.Test.YtoekdeoekcmpgaaGreatDoorXJ
import Derived.Deep.Slices
import Derived.Carry
import Derived.SizedLaws
namespace Go.Proofs.YtoekdeoekcmpgaaGreatDoor
open Go.ChangeShapes Go.WideShapes Go.ChangeAt Go.RowKit Go.Deep
set_option linter.unusedVariables false

theorem cellsK : Tryz.prog.cellsOf 22 = 1 := by kernel_rfl
theorem cells2' : Tryz.prog.cellsOf 2 = 1 := by kernel_rfl
theorem cells9' : Tryz.prog.cellsOf 9 = 1 := by kernel_rfl
theorem bytesV : Tryz.prog.bytesOf 24 = 32 := by kernel_rfl
theorem laidOutD : laidOutB Tryz.prog = true := by kernel_rfl

theorem three {α : Type} {l : List α} (h : l.length = 3) : ∃ a b c, l = [a, b, c] := by
  match l, h with
  | [a, b, c], _ => exact ⟨a, b, c, rfl⟩

set_option maxRecDepth 100000 in
theorem open_row {H : Type} {enc : TypeId × Value → H} {w : World} {fuel : Nat} {cs : List Value} {x : DataW H × List MemPlace} (h : DataW.trod enc Tryz.prog w 0 (fun _ => true) true fuel 42 cs = some x) :
    cs = [.slice none 0 0] ∨ (∃ a cap, cs = [.slice (some a) 0 cap]) ∨
    ∃ (b o len cap : Nat) (K N : Nat → Int) (T : Nat → ByteArray) (el sp : List (DataW H)), cs = [.slice (some ⟨b, o, none⟩) len cap] ∧ 0 < len ∧ x.1 = .slice el sp ∧ el.length = len ∧ RowAt w b o len K N T := by
  rcases open_slice Tryz.underlying42 h with h0 | ⟨a, len, cap, m, n, D, Pl, rfl, hb, hl, hm, hmm, rfl, hx⟩
  · exact Or.inl h0.1
  right
  simp only [if_true] at hmm
  by_cases h0 : len = 0
  · subst h0; exact Or.inl ⟨a, cap, rfl⟩
  right
  have each : ∀ i, i < m → ∃ q : Int × Int × ByteArray, w.cell? (a.add (i * 3)) = some (.int .i64 q.1) ∧ w.cell? (a.add (i * 3 + 1)) = some (.int .i64 q.2.1) ∧ w.cell? (a.add (i * 3 + 2)) = some (.string q.2.2) := by
    intro i hi
    obtain ⟨cs', h1, h2⟩ := hx i hi
    rw [cellsV] at h1
    obtain ⟨_, hlen, hcell⟩ := World.cells?_some h1
    obtain ⟨xs, k, hk, hxy, _, hxl, hf⟩ := DataW.trod_struct Tryz.underlying24 h2
    obtain ⟨y0, y1, y2, rfl⟩ := three (show xs.length = 3 from hxl)
    obtain ⟨v0, v1, v2, rfl⟩ := three hlen
    have g0 := hf 0 _ rfl
    have g1 := hf 1 _ rfl
    have g2 := hf 2 _ rfl
    simp [cellsK, cells2', cells9'] at g0 g1 g2
    obtain ⟨p, e0, _, _⟩ := DataW.trod_int Tryz.underlying22 g0
    obtain ⟨q, e1, _, _⟩ := DataW.trod_int Tryz.underlying2 g1
    obtain ⟨r, e2, _, _⟩ := DataW.trod_string Tryz.underlying9 g2
    simp at e0 e1 e2
    subst e0 e1 e2
    have c0 := hcell 0 (by omega)
    have c1 := hcell 1 (by omega)
    have c2 := hcell 2 (by omega)
    rw [add_add] at c0 c1 c2
    exact ⟨(p, q, r), by simpa using c0, by simpa using c1, by simpa using c2⟩
  obtain ⟨q, hq⟩ := choose_lt each
  obtain ⟨b, o, spot⟩ := a
  have hspot : spot = none := by simpa [Addr.add] using World.cell?_spot (hq 0 (by omega)).1
  subst hspot
  refine ⟨b, o, len, cap, fun i => (q i).1, fun i => (q i).2.1, fun i => (q i).2.2, _, _, rfl, by omega, rfl, by simp, fun i hi => ?_⟩
  obtain ⟨c0, c1, c2⟩ := hq i (by omega)
  rw [add_plain] at c0 c1 c2
  exact ⟨c0, by rw [Nat.add_assoc]; exact c1, by rw [Nat.add_assoc]; exact c2⟩
end Go.Proofs.YtoekdeoekcmpgaaGreatDoor
