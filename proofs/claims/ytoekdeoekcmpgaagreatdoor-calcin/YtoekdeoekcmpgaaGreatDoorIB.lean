/- Truth values; the program's In over any list. -/
import Derived.Test.YtoekdeoekcmpgaaGreatDoorCI
import Derived.Test.YtoekdeoekcmpgaaGreatDoorXJ
import Derived.LoopN
namespace Go.Proofs.YtoekdeoekcmpgaaGreatDoor
open Go.ChangeShapes Go.WideShapes Go.ChangeAt Go.RowKit
set_option linter.unusedVariables false

def vk : Option Bool → Int
  | none => 0
  | some _ => 1
def vn : Option Bool → Int
  | some true => 1
  | _ => 0
/-- A truth value as a value. -/
abbrev tv (X : Option Bool) : Value := val (vk X) (vn X) ⟨#[]⟩
def trB (o : Option Int) : Option Bool := o.map fun m => decide (m ≠ 0)
def setT (what : Bool) (X Y : Option Bool) : Option Bool := if X = some what ∨ Y = some what then some what else if X = none ∨ Y = none then none else some (!what)
def nulT (k k2 : Int) (X : Option Bool) : Option Bool := if k = 0 ∨ k2 = 0 then none else X

theorem truthB_tr (o : Option Int) : truthB o = .tuple #[.bool (trB o == some true), .bool (trB o).isSome] := by
  cases o with
  | none => rfl
  | some m => by_cases h : m = 0 <;> simp [truthB, trB, h]
theorem setB_tv : ∀ (what : Bool) (X Y : Option Bool), setB what (X == some true) X.isSome (Y == some true) Y.isSome = tv (setT what X Y) := by
  intro what X Y
  rcases X with _ | _ | _ <;> rcases Y with _ | _ | _ <;> cases what <;> rfl
theorem tr_tv (X : Option Bool) : trB (numO (vk X) (vn X) (⟨#[]⟩ : ByteArray).data.toList) = X := by
  rcases X with _ | _ | _
  · have : numO (vk none) (vn none) (⟨#[]⟩ : ByteArray).data.toList = none := by
      unfold numO
      rw [if_pos (.inl ⟨rfl, rfl, rfl⟩), if_neg (by decide), if_neg (by decide)]
    rw [this]; rfl
  · have := num_of_int 0
    show trB (numO 1 0 _) = _
    rw [this]; rfl
  · have := num_of_int 1
    show trB (numO 1 1 _) = _
    rw [this]; rfl
theorem may_tv (X : Option Bool) : mayB (vk X) (vn X) ⟨#[]⟩ = true := by
  rcases X with _ | _ | _ <;> rfl
theorem truthV_tv (b : Bool) : truthV b = tv (some b) := by cases b <;> rfl
theorem nulV_tv (k k2 : Int) (b : Bool) : nulV k k2 (truthV b) = tv (nulT k k2 (some b)) := by
  unfold nulV nulT
  split
  · rfl
  · exact truthV_tv b

/-- Whether two values are equal. -/
def eqX (c k n : Int) (t : ByteArray) (k2 n2 : Int) (t2 : ByteArray) : Option Bool := nulT k k2 (some (decide (cmpA k n t k2 n2 t2 c = 0)))
/-- Whether a value is one of the first of a list. -/
def orX (c k n : Int) (t : ByteArray) (K N : Nat → Int) (T : Nat → ByteArray) : Nat → Option Bool
  | 0 => some false
  | j + 1 => setT true (orX c k n t K N T j) (eqX c k n t (K j) (N j) (T j))
open Classical in
/-- Whether a value is one of a list. -/
noncomputable def inX (c k n : Int) (t : ByteArray) (len : Nat) (K N : Nat → Int) (T : Nat → ByteArray) : Option Bool := if mayB k n t = true ∧ allMay len K N T then orX c k n t K N T len else none

theorem inX_ok {c k n : Int} {t : ByteArray} {len : Nat} {K N : Nat → Int} {T : Nat → ByteArray} (h : mayB k n t = true) (h2 : ∀ i, i < len → mayB (K i) (N i) (T i) = true) : inX c k n t len K N T = orX c k n t K N T len := if_pos ⟨h, h2⟩
theorem inX_bad {c k n : Int} {t : ByteArray} {len : Nat} {K N : Nat → Int} {T : Nat → ByteArray} (h : mayB k n t = false) : inX c k n t len K N T = none := if_neg (fun g => by rw [g.1] at h; cases h)
theorem inX_row {c k n : Int} {t : ByteArray} {len : Nat} {K N : Nat → Int} {T : Nat → ByteArray} {j : Nat} (hj : j < len) (h : mayB (K j) (N j) (T j) = false) : inX c k n t len K N T = none := if_neg (fun g => by rw [g.2 j hj] at h; cases h)

abbrev EqFn (c : Int) (W : World) (p : Nat) : Prop := ∃ v, W.cell? ⟨p, 0, none⟩ = some v ∧ StFn W 142 c v
theorem eqfn_mk {c : Int} {W : World} {p : Nat} {v : Value} (h : W.cell? ⟨p, 0, none⟩ = some v) (h2 : StFn W 142 c v) : EqFn c W p := ⟨v, h, h2⟩
theorem EqFn.later {c : Int} {V W : World} {p : Nat} (h : EqFn c V p) (hb : Below V.heap.size V W) : EqFn c W p := by
  obtain ⟨v, h1, pf, pc, hv, h2, h3⟩ := h
  exact ⟨v, cell_later hb h1, pf, pc, hv, cell_later hb h2, cell_later hb h3⟩

theorem eq_fn (c k n : Int) (t : ByteArray) (k2 n2 : Int) (t2 : ByteArray) (V : World) (p : Nat) (h : EqFn c V p) :
    Calls Tryz.prog 112 #[.agg #[.int .i64 k, .int .i64 n, .string t], .agg #[.int .i64 k2, .int .i64 n2, .string t2], .pointer (some ⟨p, 0, none⟩)] V fun e w' => e = .returned (val (vk (eqX c k n t k2 n2 t2)) (vn (eqX c k n t k2 n2 t2)) ⟨#[]⟩) ∧ Below V.heap.size V w' := by
  by_cases hk : k = 0
  · subst hk
    rw [show eqX c 0 n t k2 n2 t2 = none by unfold eqX nulT; exact if_pos (.inl rfl)]
    exact nullA_walk k2 n2 t2 n t p V
  by_cases hk2 : k2 = 0
  · subst hk2
    rw [show eqX c k n t 0 n2 t2 = none by unfold eqX nulT; exact if_pos (.inr rfl)]
    exact nullB_walk k n t n2 t2 p V
  rw [show eqX c k n t k2 n2 t2 = some (decide (cmpA k n t k2 n2 t2 c = 0)) by unfold eqX nulT; exact if_neg (by omega)]
  obtain ⟨v, h1, pf, pc, rfl, h2, h3⟩ := h
  refine un_stand k n t k2 n2 t2 (by simpa using hk) (by simpa using hk2) _ _ ⟨#[]⟩ p pf pc V h1 (fun U hU => ?_)
  have := stand_eq k n t k2 n2 t2 c pf pc U (cell_later hU h2) (cell_later hU h3)
  rw [truthV_tv] at this
  exact this

theorem or_fn (S X : Option Bool) (V : World) (p : Nat) (hV : Env V) (h : V.cell? ⟨p, 0, none⟩ = some (.bool true)) :
    Calls Tryz.prog 116 #[.agg #[.int .i64 (vk S), .int .i64 (vn S), .string ⟨#[]⟩], .agg #[.int .i64 (vk X), .int .i64 (vn X), .string ⟨#[]⟩], .pointer (some ⟨p, 0, none⟩)] V fun e w' => e = .returned (val (vk (setT true S X)) (vn (setT true S X)) ⟨#[]⟩) ∧ Below V.heap.size V w' := by
  have := settled_walk true (vk S) (vn S) ⟨#[]⟩ (vk X) (vn X) ⟨#[]⟩ _ _ _ _ (truthB_tr _) (truthB_tr _) p V hV h
  rw [setB_tv, tr_tv, tr_tv] at this
  exact this

/-- A block that is stored into, and one that was laid last. -/
theorem two_laterg {W : World} {g : Nat} {a b c : Value} {T : TypeId} (hg : W.heap[g]? = some (.cells #[a, b, c] T (0, 0))) (x y z : Value) (V : World) (h : Below (W.alloc (.cells #[x, y, z] T)).heap.size (W.alloc (.cells #[x, y, z] T)) V) :
    (V.cell? ⟨g, 0, none⟩ = some a ∧ V.cell? ⟨g, 1, none⟩ = some b ∧ V.cell? ⟨g, 2, none⟩ = some c) ∧ (V.cell? ⟨W.heap.size, 0, none⟩ = some x ∧ V.cell? ⟨W.heap.size, 1, none⟩ = some y ∧ V.cell? ⟨W.heap.size, 2, none⟩ = some z) ∧
    (V.frozen? ⟨g, 0, none⟩ = false ∧ V.frozen? ⟨g, 1, none⟩ = false ∧ V.frozen? ⟨g, 2, none⟩ = false) ∧ Hid (V.heap[g]? = some (.cells #[a, b, c] T (0, 0))) ∧ Hid (Below W.heap.size W V) := by
  have h1 := blk_later (blk_alloc hg (.cells #[x, y, z] T)) h
  have h2 := res_block W x y z T h
  obtain ⟨a0, a1, a2, f0, f1, f2⟩ := res_facts h1
  obtain ⟨b0, b1, b2, -⟩ := res_facts h2
  exact ⟨⟨a0, a1, a2⟩, ⟨b0, b1, b2⟩, ⟨f0, f1, f2⟩, h1, below_trans (new_below W _ rfl) h⟩
theorem set3_block {W : World} {g : Nat} {a b c : Value} {T : TypeId} (hg : W.heap[g]? = some (.cells #[a, b, c] T (0, 0))) (x y z : Value) : (((W.setCell ⟨g, 0, none⟩ x).setCell ⟨g, 1, none⟩ y).setCell ⟨g, 2, none⟩ z).heap[g]? = some (.cells #[x, y, z] T (0, 0)) := by
  simpa using set_block (set_block (set_block hg 0 x) 1 y) 2 z
end Go.Proofs.YtoekdeoekcmpgaaGreatDoor
