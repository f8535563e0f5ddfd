/- Rows of changes in memory; the closure that tells a file's changes; slices.IndexFunc over it. -/
import Derived.Test.YteocmhbllckpjaaGreatV3
namespace Go.Proofs.YteocmhbllckpjaaGreat
open Go.ChangeShapes Go.WideShapes Go.ChangeAt Go.RowKit
set_option linter.unusedVariables false

/-- Is it a change of that file? -/
def isN (nm : ByteArray) (c : Ch) : Bool := c.name.toList == nm.toList
theorem splice_cons {α : Type} (l : List α) (o : Nat) (v : α) (r : List α) (h : o < l.length) : splice (l.set o v) (o + 1) r = splice l o (v :: r) := by
  unfold splice
  rw [List.set_eq_take_append_cons_drop, if_pos h]
  have h1 : (l.take o).length = o := by rw [List.length_take]; omega
  have e1 : (l.take o ++ v :: l.drop (o + 1)).take (o + 1) = l.take o ++ [v] := by
    rw [List.take_append, h1, List.take_of_length_le (by omega), show o + 1 - o = 1 by omega]; rfl
  have e2 : (l.take o ++ v :: l.drop (o + 1)).drop (o + 1 + r.length) = l.drop (o + (v :: r).length) := by
    rw [List.drop_append, h1, List.drop_of_length_le (by omega), List.nil_append, show o + 1 + r.length - o = 1 + r.length by omega, Nat.add_comm 1, List.drop_succ_cons, List.drop_drop, List.length_cons]
    congr 1
    omega
  rw [e1, e2]
  simp
theorem splice_nil {α : Type} (l : List α) (o : Nat) : splice l o [] = l := by simp [splice]
/-- Cells laid into a block. -/
theorem setCells_blk {w : World} {b : Nat} {t : TypeId} : ∀ (vs : List Value) (o : Nat) (w : World) (c : Array Value), Blk w b c t → o + vs.length ≤ c.size → Blk (w.setCells b o vs) b (splice c.toList o vs).toArray t
  | [], o, w, c, h, _ => by rw [splice_nil]; simpa [World.setCells] using h
  | v :: r, o, w, c, h, hs => by
    have h1 := setCells_blk (w := w) (b := b) (t := t) r (o + 1) (w.setCell ⟨b, o, none⟩ v) (c.setIfInBounds o v) (h.set o v) (by simp at hs ⊢; omega)
    rw [Array.toList_setIfInBounds, splice_cons _ _ _ _ (by simp at hs ⊢; omega)] at h1
    exact h1
theorem setCells_only (b : Nat) : ∀ (vs : List Value) (o : Nat) (w : World), Only [b] w (w.setCells b o vs)
  | [], o, w => Only.refl _ _
  | v :: r, o, w => (Only.setCell w ⟨b, o, none⟩ v).trans (setCells_only b r (o + 1) _)
theorem chcells_length {chs : List Ch} (h : ∀ c ∈ chs, c.data.length = 64) : (chcells chs).length = chs.length * 67 := by
  induction chs with
  | nil => rfl
  | cons c r ih =>
    have h1 := length_cells c (h c (by simp))
    have h2 := ih (fun d hd => h d (by simp [hd]))
    rw [show chcells (c :: r) = c.cells ++ chcells r from rfl, List.length_append, h1, h2, List.length_cons]
    omega
theorem chcells_append (x y : List Ch) : chcells (x ++ y) = chcells x ++ chcells y := by simp [chcells]
theorem chcells_take {chs : List Ch} (h : ∀ c ∈ chs, c.data.length = 64) (j : Nat) : (chcells chs).take (j * 67) = chcells (chs.take j) := by
  have e := chcells_append (chs.take j) (chs.drop j)
  rw [List.take_append_drop] at e
  by_cases hj : j ≤ chs.length
  · have h1 := chcells_length (chs := chs.take j) (fun c hc => h c (List.mem_of_mem_take hc))
    rw [List.length_take, Nat.min_eq_left hj] at h1
    rw [e, ← h1, List.take_left]
  · have h2 := chcells_length h
    rw [List.take_of_length_le (l := chs) (by omega), List.take_of_length_le (by omega)]
theorem chcells_get {chs : List Ch} (h : ∀ c ∈ chs, c.data.length = 64) {j : Nat} {c : Ch} (hj : chs[j]? = some c) (i : Nat) (v : Value) (hv : c.cells[i]? = some v) : (chcells chs)[j * 67 + i]? = some v := by
  obtain ⟨hlt, hc⟩ := List.getElem?_eq_some_iff.1 hj
  have e : chs = chs.take j ++ (c :: chs.drop (j + 1)) := by rw [← hc, ← List.drop_eq_getElem_cons hlt, List.take_append_drop]
  have hl := chcells_length (chs := chs.take j) (fun c hc => h c (List.mem_of_mem_take hc))
  rw [List.length_take, Nat.min_eq_left (by omega)] at hl
  have hi : i < c.cells.length := (List.getElem?_eq_some_iff.1 hv).1
  rw [e, chcells_append, show chcells (c :: chs.drop (j + 1)) = c.cells ++ chcells (chs.drop (j + 1)) from rfl, List.getElem?_append_right (by omega), hl, Nat.add_sub_cancel_left, List.getElem?_append_left hi]
  exact hv
/-- One change of a row. -/
theorem chs_range {w : World} {base g cap n m : Nat} {chs : List Ch} (h : w.ownsRow base 112 67 (.slice (some ⟨g, 0, none⟩) n cap) m (chcells chs)) (h64 : ∀ c ∈ chs, c.data.length = 64) {j : Nat} {c : Ch} (hj : chs[j]? = some c) : w.rangeAt g (j * 67) c.cells := by
  intro i v hv
  have := h.cells (g := g) rfl (j * 67 + i) v (chcells_get h64 hj i v hv)
  rwa [Addr.add_mid, Nat.zero_add] at this
theorem u75 : ∃ d, Tryz.prog.underlying 112 = some d ∧ d.isRow = true := ⟨_, Tryz.underlying112, rfl⟩
theorem i75 {c : Ch} (h : c.data.length = 64) : (Tryz.prog.info? 112).map (·.size) = some c.cells.length := by rw [length_cells c h]; exact info75s
theorem wp_loadC {ops : Array Oper} {rest : List Oper} {o : Oper} {a : Act} {Q : Exit → Act → World → Prop} {w : World} {g k : Nat} {c : Ch} (h64 : c.data.length = 64) (hg : w.rangeAt g k c.cells) (x : Operand)
    (hgd : o.guard = none) (ho : o.op = .load 112 x) (hx : a.eval x = .pointer (some ⟨g, k, none⟩)) (h : wpList Tryz.prog ops Q rest (a.put o.dst (.agg c.cells.toArray)) w) : wpList Tryz.prog ops Q (o :: rest) a w := by
  obtain ⟨d, hd, hr⟩ := u75
  exact wpList_load_mid hgd 112 x ho g k hx c.cells d hg hd hr (i75 h64) h
theorem Blk.range {w : World} {g : Nat} {c : Ch} (h : Blk w g c.cells.toArray 112) : w.rangeAt g 0 c.cells := by
  intro j v hv
  rw [Nat.zero_add, h.cell j]
  simpa using hv
/-- A change stored whole into a block of its own. -/
theorem wp_storeC {ops : Array Oper} {rest : List Oper} {o : Oper} {a : Act} {Q : Exit → Act → World → Prop} {w : World} {g : Nat} {c : Ch} (h64 : c.data.length = 64) {z : Array Value} (hz : z.size = 67) (hg : w.heap[g]? = some (.cells z 112 (0, 0))) (x y : Operand)
    (hgd : o.guard = none) (ho : o.op = .store 112 x y) (hx : a.eval x = .pointer (some ⟨g, 0, none⟩)) (hy : a.eval y = .agg c.cells.toArray)
    (h : ∀ W', Blk W' g c.cells.toArray 112 → Only [g] w W' → wpList Tryz.prog ops Q rest (a.put o.dst undef) W') : wpList Tryz.prog ops Q (o :: rest) a w := by
  have hs : (Tryz.prog.info? 112).map (·.size) = some c.cells.toArray.size := by rw [List.size_toArray]; exact i75 h64
  have hl := length_cells c h64
  refine wpList_store_row hgd 112 x y ho g c.cells.toArray hx hy 112 z hg hs (by rw [hz]; simp [hl]) ?_ (h _ ?_ ?_)
  · rw [Array.all_eq_true_iff_forall_mem]
    intro v hv
    exact one_chg c.name c.sector c.size c.data v (by have : v ∈ c.cells := by simpa using hv
                                                      exact this)
  · exact setRow_heap w g _ _ _ _ hg
  · exact ⟨rfl, rfl, rfl, by simp [World.setRow], fun k _ hk => setRow_other w g k _ (fun e => hk (by simp [e]))⟩

set_option maxHeartbeats 1000000 in
/-- The closure: is a change one of that file? -/
theorem keep1_any (w : World) (Bn : Nat) (nm : ByteArray) (c : Ch) (h64 : c.data.length = 64) (hn : w.cell? ⟨Bn, 0, none⟩ = some (.string nm)) :
    Calls Tryz.prog 148 #[.agg c.cells.toArray, .pointer (some ⟨Bn, 0, none⟩)] w fun e w' => e = .returned (.bool (isN nm c)) ∧ w.grownBy w' none := by
  have c0 : (w.alloc (.cells c.cells.toArray 112)).cell? ⟨w.heap.size, 0, none⟩ = some (.string c.name) := ((chg_cell w c h64).cell 0).trans (chg_get c).2.2.1
  have hn' : (w.alloc (.cells c.cells.toArray 112)).cell? ⟨Bn, 0, none⟩ = some (.string nm) := (World.grownBy_alloc w _ none).cell hn (by simp)
  have HG := hide (World.grownBy_alloc w (.cells c.cells.toArray 112) none)
  clear hn
  go_enter Tryz.func148, Tryz.ntmps148
  go_wp2
  go_ret
  exact ⟨rfl, HG.out⟩
end Go.Proofs.YteocmhbllckpjaaGreat
