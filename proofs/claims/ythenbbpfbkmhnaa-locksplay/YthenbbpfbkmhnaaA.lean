/- Tables in memory; which connections and locks there are; what is asked for. -/
import Derived.Test.YthenbbpfbkmhnaaChecked
import Derived.WalkKit
import Derived.ProofKit
import Derived.OpenShut
import Derived.Laws.StructEq
import Derived.Handy
import Derived.LoopN
import Derived.Deep.RegionHeld3
import Derived.Deep.Cut
import Derived.Deep.WholeRow
import Derived.Deep.MidRow
namespace Go.Proofs.Ythenbbpfbkmhnaa
open Go.ChangeShapes Go.WideShapes Go.ChangeAt Go.RowKit
set_option linter.unusedVariables false

theorem hide {p : Prop} (h : p) : Hid p := h
theorem cell_later {w w' : World} (b : Below w.heap.size w w') {a : Addr} {v : Value} (h : w.cell? a = some v) : w'.cell? a = some v := by
  refine (b.cell ?_).trans h
  refine Nat.lt_of_not_le fun hn => ?_
  have : w.heap[a.block]? = none := by simp; exact hn
  rw [World.cell?_of_block (w := World.mk #[] w.tape w.drawn w.os w.output) (w' := w) (by rw [this]; simp)] at h
  simp [World.cell?] at h

/-- Of what was there nothing has turned but the blocks of S. -/
structure Only (S : List Nat) (w w' : World) : Prop where
  os : w'.os = w.os
  tape : w'.tape = w.tape
  output : w'.output = w.output
  size : w.heap.size ≤ w'.heap.size
  block : ∀ k, k < w.heap.size → k ∉ S → w'.heap[k]? = w.heap[k]?
theorem Only.refl (S : List Nat) (w : World) : Only S w w := ⟨rfl, rfl, rfl, Nat.le_refl _, fun _ _ _ => rfl⟩
theorem Only.trans {S : List Nat} {a b c : World} (h : Only S a b) (k : Only S b c) : Only S a c :=
  ⟨k.os.trans h.os, k.tape.trans h.tape, k.output.trans h.output, Nat.le_trans h.size k.size, fun i hi hn => (k.block i (Nat.lt_of_lt_of_le hi h.size) hn).trans (h.block i hi hn)⟩
theorem Only.andThen {S T : List Nat} {a b c : World} (h : Only S a b) (k : Only T b c) (hT : ∀ j ∈ T, j ∈ S ∨ a.heap.size ≤ j) : Only S a c :=
  ⟨k.os.trans h.os, k.tape.trans h.tape, k.output.trans h.output, Nat.le_trans h.size k.size, fun i hi hn =>
    (k.block i (Nat.lt_of_lt_of_le hi h.size) (fun hm => by rcases hT i hm with h1 | h1; exact hn h1; omega)).trans (h.block i hi hn)⟩
theorem Only.mono {S T : List Nat} {a b : World} (h : Only S a b) (hs : ∀ j ∈ S, j ∈ T) : Only T a b :=
  ⟨h.os, h.tape, h.output, h.size, fun i hi hn => h.block i hi (fun hm => hn (hs i hm))⟩
theorem Only.below {S : List Nat} {a b : World} {B : Nat} (h : Only S a b) (hB : B ≤ a.heap.size) (hs : ∀ j ∈ S, B ≤ j) : Below B a b :=
  ⟨h.os, h.tape, h.output, h.size, fun i hi => h.block i (by omega) (fun hm => by have := hs i hm; omega)⟩
theorem Only.of_grown {w w' : World} {row : Option Nat} (h : w.grownBy w' row) : Only row.toList w w' :=
  ⟨h.os, h.tape, h.output, h.size, fun k hk hn => h.block k hk (fun e => hn (by rw [← e]; simp))⟩
theorem Only.drew (w : World) (S : List Nat) : Only S w w.drew := ⟨rfl, rfl, rfl, Nat.le_refl _, fun _ _ _ => rfl⟩
theorem Only.alloc (w : World) (o : Obj) (S : List Nat) : Only S w (w.alloc o) :=
  ⟨rfl, rfl, rfl, by simp, fun k hk _ => Below.heap_alloc _ _ _ hk⟩
theorem Only.setCell (w : World) (a : Addr) (v : Value) : Only [a.block] w (w.setCell a v) :=
  ⟨rfl, rfl, rfl, by simp [World.setCell], fun k hk hn => Below.heap_setCell _ _ _ _ (by simpa using hn)⟩
theorem Only.blk {S : List Nat} {w w' : World} (h : Only S w w') {b : Nat} {o : Obj} (hb : w.heap[b]? = some o) (hn : b ∉ S) : w'.heap[b]? = some o := by
  rw [h.block b (Array.getElem?_eq_some_iff.1 hb).1 hn]; exact hb

/-- A block of plain cells. -/
abbrev Blk (w : World) (b : Nat) (c : Array Value) (t : TypeId) : Prop := w.heap[b]? = some (.cells c t (0, 0))
theorem Blk.cell {w : World} {b : Nat} {c : Array Value} {t : TypeId} (h : Blk w b c t) (k : Nat) : w.cell? ⟨b, k, none⟩ = c[k]? := cell_of_row w b k _ _ _ h
theorem Blk.set {w : World} {b : Nat} {c : Array Value} {t : TypeId} (h : Blk w b c t) (o : Nat) (v : Value) : Blk (w.setCell ⟨b, o, none⟩ v) b (c.setIfInBounds o v) t := by
  simp [Blk, World.setCell, Array.getElem?_modify, h]
theorem Blk.lt {w : World} {b : Nat} {c : Array Value} {t : TypeId} (h : Blk w b c t) : b < w.heap.size := (Array.getElem?_eq_some_iff.1 h).1
theorem Blk.new (w : World) (c : Array Value) (t : TypeId) : Blk (w.alloc (.cells c t)) w.heap.size c t := heap_alloc_new w _
theorem Blk.frozen {w : World} {b : Nat} {c : Array Value} {t : TypeId} (h : Blk w b c t) (k : Nat) : w.frozen? ⟨b, k, none⟩ = false := by simp [World.frozen?, h]
theorem Blk.later {w w' : World} {b : Nat} {c : Array Value} {t : TypeId} {S : List Nat} (h : Blk w b c t) (ho : Only S w w') (hn : b ∉ S) : Blk w' b c t := ho.blk h hn

/-- What the connection k holds. -/
def gt (h : List Int) (k : Nat) : Int := h[k]?.getD 0
/-- Locks as cells. -/
def hcl (h : List Int) : List Value := h.map (fun x => .int .i64 x)
/-- A table as cells. -/
def tcl (m : Bool) (h : List Int) : List Value := .bool m :: hcl h
theorem hcl_length (h : List Int) : (hcl h).length = h.length := by simp [hcl]
theorem tcl_length (m : Bool) (h : List Int) : (tcl m h).length = h.length + 1 := by simp [tcl, hcl]
theorem hcl_get {h : List Int} {k : Nat} (hk : k < h.length) : (hcl h)[k]? = some (.int .i64 (gt h k)) := by simp [hcl, gt, hk]
theorem tcl_get (m : Bool) {h : List Int} {k : Nat} (hk : k < h.length) : (tcl m h)[k + 1]? = some (.int .i64 (gt h k)) := by
  simp only [tcl, List.getElem?_cons_succ]; exact hcl_get hk
theorem gt_set {h : List Int} {k : Nat} (hk : k < h.length) (x : Int) (j : Nat) : gt (h.set k x) j = if j = k then x else gt h j := by
  unfold gt
  rw [List.getElem?_set]
  by_cases e : k = j
  · subst e; simp [hk]
  · rw [if_neg e, if_neg (Ne.symm e)]
theorem tcl_set (m : Bool) (h : List Int) (k : Nat) (x : Int) : (tcl m h).toArray.setIfInBounds (k + 1) (.int .i64 x) = (tcl m (h.set k x)).toArray := by
  simp [tcl, hcl, List.map_set]
theorem tcl_one (m : Bool) (h : List Int) : ∀ v ∈ tcl m h, v.oneCell' = true := by
  intro v hv
  simp only [tcl, hcl, List.mem_cons, List.mem_map] at hv
  rcases hv with rfl | ⟨b, _, rfl⟩ <;> rfl

/-- A table of the program; one of the document. -/
abbrev TB (w : World) (g : Nat) (h : List Int) : Prop := Blk w g (tcl true h).toArray 46
theorem Blk.made {w : World} {g : Nat} {m : Bool} {h : List Int} {t : TypeId} (hb : Blk w g (tcl m h).toArray t) : w.cell? ⟨g, 0, none⟩ = some (.bool m) := by
  rw [hb.cell]; simp [tcl]
theorem Blk.held {w : World} {g : Nat} {m : Bool} {h : List Int} {t : TypeId} (hb : Blk w g (tcl m h).toArray t) {k : Nat} (hk : k < h.length) : w.cell? ⟨g, k + 1, none⟩ = some (.int .i64 (gt h k)) := by
  rw [hb.cell]; simpa using tcl_get m hk
theorem Blk.held' {w : World} {g : Nat} {m : Bool} {h : List Int} {t : TypeId} (hb : Blk w g (tcl m h).toArray t) {k : Nat} (hk : k < h.length) : w.cell? ⟨g, 1 + k, none⟩ = some (.int .i64 (gt h k)) := by
  rw [Nat.add_comm]; exact hb.held hk

/-- A pointer to a table: none, or one that there is. -/
def TP (w : World) (p : Option Addr) (h : Option (List Int)) : Prop := (p = none ∧ h = none) ∨ ∃ g l, p = some ⟨g, 0, none⟩ ∧ h = some l ∧ l.length = 8 ∧ TB w g l

theorem there_nil (w : World) : Calls Try.prog 19 #[.pointer none] w fun e w' => e = .returned (.bool false) ∧ w = w' := by
  go_enter Try.func19, Try.ntmps19
  go_wp2
  go_ret
  exact ⟨rfl, rfl⟩
theorem there_some (w : World) (g : Nat) (h : List Int) (hb : TB w g h) : Calls Try.prog 19 #[.pointer (some ⟨g, 0, none⟩)] w fun e w' => e = .returned (.bool true) ∧ w = w' := by
  have c0 := hb.made
  clear hb
  go_enter Try.func19, Try.ntmps19
  go_wp2
  go_ret
  exact ⟨rfl, rfl⟩
def okC (c : Int) : Bool := decide (0 ≤ c ∧ c < 8)
def okL (l : Int) : Bool := decide (0 ≤ l ∧ l ≤ 3)
theorem isConn_any (w : World) (c : Int) : Calls Try.prog 20 #[.int .i64 c] w fun e w' => e = .returned (.bool (okC c)) ∧ w = w' := by
  by_cases h0 : 0 ≤ c
  · by_cases h1 : c < 8
    · go_enter Try.func20, Try.ntmps20
      go_wp2
      go_ret
      exact ⟨by simp [okC, h0, h1], rfl⟩
    · go_enter Try.func20, Try.ntmps20
      go_wp2
      go_ret
      exact ⟨by simp [okC, h1], rfl⟩
  · go_enter Try.func20, Try.ntmps20
    go_wp2
    go_ret
    exact ⟨by rw [show okC c = false from decide_eq_false (fun h => absurd h.1 (by omega))]; rfl, rfl⟩
theorem isLock_any (w : World) (c : Int) : Calls Try.prog 21 #[.int .i64 c] w fun e w' => e = .returned (.bool (okL c)) ∧ w = w' := by
  by_cases h0 : 0 ≤ c
  · by_cases h1 : c ≤ 3
    · go_enter Try.func21, Try.ntmps21
      go_wp2
      go_ret
      exact ⟨by simp [okL, h0, h1], rfl⟩
    · go_enter Try.func21, Try.ntmps21
      go_wp2
      go_ret
      exact ⟨by simp [okL, h1], rfl⟩
  · go_enter Try.func21, Try.ntmps21
    go_wp2
    go_ret
    exact ⟨by rw [show okL c = false from decide_eq_false (fun h => absurd h.1 (by omega))]; rfl, rfl⟩
/-- What is asked for may not be: its error. -/
def askE (c l : Int) : Int := if okC c && okL l then 0 else 2
theorem asked_nil (w : World) (c l : Int) : Calls Try.prog 15 #[.pointer none, .int .i64 c, .int .i64 l] w fun e w' => e = .returned (.int .i64 1) ∧ w = w' := by
  go_enter Try.func15, Try.ntmps15
  go_wp2_with (go_at_call 19; refine Calls.mono (there_nil _) ?_; rintro e w4 ⟨rfl, rfl⟩)
  go_ret
  exact ⟨rfl, rfl⟩
theorem asked_some (w : World) (g : Nat) (h : List Int) (hb : TB w g h) (c l : Int) : Calls Try.prog 15 #[.pointer (some ⟨g, 0, none⟩), .int .i64 c, .int .i64 l] w fun e w' => e = .returned (.int .i64 (askE c l)) ∧ w = w' := by
  have HT := hide (there_some w g h hb)
  clear hb
  cases hc : okC c <;> cases hl : okL l
  all_goals
    go_enter Try.func15, Try.ntmps15
    go_wp2_with (first
      | (go_at_call 19; refine Calls.mono HT.out ?_; rintro e w4 ⟨rfl, rfl⟩)
      | (go_at_call 20; refine Calls.mono (isConn_any _ _) ?_; rintro e w4 ⟨rfl, rfl⟩)
      | (go_at_call 21; refine Calls.mono (isLock_any _ _) ?_; rintro e w4 ⟨rfl, rfl⟩))
    go_ret
    exact ⟨by simp [askE, hc, hl], rfl⟩
end Go.Proofs.Ythenbbpfbkmhnaa
