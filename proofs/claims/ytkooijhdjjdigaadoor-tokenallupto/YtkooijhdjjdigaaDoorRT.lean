/- A row of tokens as an argument, opened; what its bulk bounds. -/
import Derived.Test.YtkooijhdjjdigaaDoorRF
import Derived.Test.YtkooijhdjjdigaaDoorRP
import Derived.Deep.Slices
import Derived.Carry
import Derived.SizedLaws
import Derived.ChangeOld
import Derived.Below
import Derived.WalkSpells
import Derived.WalkLawsBesides
namespace Go.Proofs.YtkooijhdjjdigaaDoor
open Go.ChangeShapes Go.WideShapes Go.ChangeAt Go.RowKit Go.Deep
set_option linter.unusedVariables false

theorem laidOutD : laidOutB Tryd.prog = true := by kernel_rfl
theorem cellsTg : Tryd.prog.cellsOf 39 = 3 := by kernel_rfl
theorem cellsKd : Tryd.prog.cellsOf 37 = 1 := by kernel_rfl
theorem cellsIn : Tryd.prog.cellsOf 3 = 1 := by kernel_rfl
theorem cellsSt : Tryd.prog.cellsOf 9 = 1 := by kernel_rfl
theorem three {α : Type} {l : List α} (h : l.length = 3) : ∃ a b c, l = [a, b, c] := by
  match l, h with
  | [a, b, c], _ => exact ⟨a, b, c, rfl⟩
theorem bulk_one {H : Type} (d : DataW H) : 1 ≤ Rows.uptoBulk d := by
  cases d with
  | lit l => cases l <;> simp [Rows.uptoBulk]
  | _ => simp [Rows.uptoBulk]
theorem bulk_mem {H : Type} {d : DataW H} : ∀ {l : List (DataW H)}, d ∈ l → Rows.uptoBulk d ≤ Rows.uptoBulkAll l
  | [], h => by cases h
  | x :: r, h => by
    simp only [Rows.uptoBulkAll]
    rcases List.mem_cons.1 h with rfl | h
    · omega
    · have := bulk_mem h; omega
theorem bulk_len {H : Type} : ∀ (l : List (DataW H)), l.length ≤ Rows.uptoBulkAll l
  | [] => Nat.zero_le _
  | x :: r => by have := bulk_one x; have := bulk_len r; simp only [Rows.uptoBulkAll, List.length_cons]; omega
set_option maxRecDepth 100000 in
theorem open_tgs {H : Type} {enc : TypeId × Value → H} {w : World} {fuel : Nat} {p : Option Addr} {n c : Nat} {x : DataW H × List MemPlace} (h : DataW.trod enc Tryd.prog w 0 (fun _ => true) true fuel 22 [.slice p n c] = some x) :
    ∃ l : List Tg, TgAt w (.slice p n c) l ∧ l.length ≤ Rows.uptoBulk x.1 ∧ ∀ y ∈ l, y.t.length ≤ Rows.uptoBulk x.1 := by
  rcases open_slice Tryd.underlying22 h with h0 | ⟨a, len, cap, m, nn, D, Pl, hcs, hb, hl, hm, hmm, rfl, hx⟩
  · obtain ⟨h1, h2⟩ := h0
    obtain ⟨rfl, rfl, rfl⟩ : p = none ∧ n = 0 ∧ c = 0 := by simpa using h1
    exact ⟨[], ⟨_, _, rfl, fun h => absurd h (by simp)⟩, Nat.zero_le _, fun y hy => by simp at hy⟩
  obtain ⟨rfl, rfl, rfl⟩ : p = some a ∧ n = len ∧ c = cap := by simpa using hcs
  simp only [if_true] at hmm
  have each : ∀ i, i < m → ∃ q : Int × Int × ByteArray, w.cell? (a.add (i * 3)) = some (.int .i64 q.1) ∧ w.cell? (a.add (i * 3 + 1)) = some (.int .i64 q.2.1) ∧ w.cell? (a.add (i * 3 + 2)) = some (.string q.2.2) ∧ q.2.2.data.toList.length ≤ Rows.uptoBulk (D i) := by
    intro i hi
    obtain ⟨cs', h1, h2⟩ := hx i hi
    rw [cellsTg] at h1
    obtain ⟨_, hlen, hcell⟩ := World.cells?_some h1
    obtain ⟨xs, k, hk, hxy, _, hxl, hf⟩ := DataW.trod_struct Tryd.underlying39 h2
    obtain ⟨y0, y1, y2, rfl⟩ := three (show xs.length = 3 from hxl)
    obtain ⟨v0, v1, v2, rfl⟩ := three hlen
    have g0 := hf 0 _ rfl
    have g1 := hf 1 _ rfl
    have g2 := hf 2 _ rfl
    simp [cellsKd, cellsIn, cellsSt] at g0 g1 g2
    obtain ⟨p, e0, _, _⟩ := DataW.trod_int Tryd.underlying37 g0
    obtain ⟨q, e1, _, _⟩ := DataW.trod_int Tryd.underlying3 g1
    obtain ⟨r, e2, hr, _⟩ := DataW.trod_string Tryd.underlying9 g2
    simp at e0 e1 e2
    subst e0 e1 e2
    have c0 := hcell 0 (by omega)
    have c1 := hcell 1 (by omega)
    have c2 := hcell 2 (by omega)
    rw [add_add] at c0 c1 c2
    refine ⟨(p, q, r), by simpa using c0, by simpa using c1, by simpa using c2, ?_⟩
    have hD : D i = .agg [y0.1, y1.1, y2.1] := by
      have := congrArg Prod.fst hxy
      simpa using this
    rw [hD, hr]
    simp [Rows.uptoBulk, Rows.uptoBulkAll]
    omega
  obtain ⟨q, hq⟩ := choose_lt each
  refine ⟨(List.range n).map fun i => ⟨(q i).1, (q i).2.1, (q i).2.2.data.toList⟩, ⟨_, _, by rw [List.length_map, List.length_range], fun hpos => ?_⟩, ?_, ?_⟩
  · rw [List.length_map, List.length_range] at hpos
    obtain ⟨b, o, spot⟩ := a
    have hspot : spot = none := by simpa [Addr.add] using World.cell?_spot (hq 0 (by omega)).1
    subst hspot
    refine ⟨b, o, rfl, fun V hV i x hix => ?_⟩
    have hi : i < n := by
      have := (List.getElem?_eq_some_iff.1 hix).1
      simpa using this
    rw [List.getElem?_map, List.getElem?_range hi] at hix
    obtain rfl := Option.some.inj hix
    obtain ⟨c0, c1, c2, _⟩ := hq i (by omega)
    rw [add_plain] at c0 c1 c2
    exact ⟨cell_later hV c0, by rw [Nat.add_assoc]; exact cell_later hV c1, by rw [Nat.add_assoc]; exact cell_later hV c2⟩
  · rw [List.length_map, List.length_range]
    have := bulk_len ((List.range n).map D)
    rw [List.length_map, List.length_range] at this
    simp only [Rows.uptoBulk]
    omega
  · intro y hy
    obtain ⟨i, hi, rfl⟩ := List.mem_map.1 hy
    have hi := List.mem_range.1 hi
    obtain ⟨_, _, _, h4⟩ := hq i (by omega)
    have h5 := bulk_mem (List.mem_map.2 ⟨i, List.mem_range.2 hi, rfl⟩ : D i ∈ (List.range n).map D)
    show (q i).2.2.data.toList.length ≤ _
    simp only [Rows.uptoBulk]
    omega
theorem small_of {H : Type} {l : List (DataW H)} (hk : Rows.uptoSmall H l = true) : Rows.uptoBulkAll l ≤ 1048576 := of_decide_eq_true hk
end Go.Proofs.YtkooijhdjjdigaaDoor
