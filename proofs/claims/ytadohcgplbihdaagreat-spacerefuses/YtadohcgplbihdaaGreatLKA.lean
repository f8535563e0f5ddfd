/- Tables of locks in memory. -/
import Derived.Test.YtadohcgplbihdaaGreatTA
namespace Go.Proofs.YtadohcgplbihdaaGreat
open Go.ChangeShapes Go.WideShapes Go.ChangeAt Go.RowKit
set_option linter.unusedVariables false

/-- What the connection k holds. -/
def gt (h : List Int) (k : Nat) : Int := h[k]?.getD 0
/-- Locks as cells. -/
def hcl (h : List Int) : List Value := h.map (fun x => .int .i64 x)
/-- A table as cells. -/
def tcl (m : Bool) (h : List Int) : List Value := .bool m :: hcl h
theorem hcl_length (h : List Int) : (hcl h).length = h.length := by simp [hcl]
theorem tcl_length (m : Bool) (h : List Int) : (tcl m h).length = h.length + 1 := by simp [tcl, hcl]
theorem hcl_get {h : List Int} {k : Nat} (hk : k < h.length) : (hcl h)[k]? = some (.int .i64 (gt h k)) := by simp [hcl, gt, hk]
theorem tcl_get (m : Bool) {h : List Int} {k : Nat} (hk : k < h.length) : (tcl m h)[k + 1]? = some (.int .i64 (gt h k)) := by
  simp only [tcl, List.getElem?_cons_succ]; exact hcl_get hk
theorem gt_set {h : List Int} {k : Nat} (hk : k < h.length) (x : Int) (j : Nat) : gt (h.set k x) j = if j = k then x else gt h j := by
  unfold gt
  rw [List.getElem?_set]
  by_cases e : k = j
  · subst e; simp [hk]
  · rw [if_neg e, if_neg (Ne.symm e)]
theorem tcl_set (m : Bool) (h : List Int) (k : Nat) (x : Int) : (tcl m h).toArray.setIfInBounds (k + 1) (.int .i64 x) = (tcl m (h.set k x)).toArray := by
  simp [tcl, hcl, List.map_set]
theorem tcl_one (m : Bool) (h : List Int) : ∀ v ∈ tcl m h, v.oneCell' = true := by
  intro v hv
  simp only [tcl, hcl, List.mem_cons, List.mem_map] at hv
  rcases hv with rfl | ⟨b, _, rfl⟩ <;> rfl

/-- A table of the program; one of the document. -/
abbrev TB (w : World) (g : Nat) (h : List Int) : Prop := Blk w g (tcl true h).toArray 178
theorem Blk.made {w : World} {g : Nat} {m : Bool} {h : List Int} {t : TypeId} (hb : Blk w g (tcl m h).toArray t) : w.cell? ⟨g, 0, none⟩ = some (.bool m) := by
  rw [hb.cell]; simp [tcl]
theorem Blk.held {w : World} {g : Nat} {m : Bool} {h : List Int} {t : TypeId} (hb : Blk w g (tcl m h).toArray t) {k : Nat} (hk : k < h.length) : w.cell? ⟨g, k + 1, none⟩ = some (.int .i64 (gt h k)) := by
  rw [hb.cell]; simpa using tcl_get m hk
theorem Blk.held' {w : World} {g : Nat} {m : Bool} {h : List Int} {t : TypeId} (hb : Blk w g (tcl m h).toArray t) {k : Nat} (hk : k < h.length) : w.cell? ⟨g, 1 + k, none⟩ = some (.int .i64 (gt h k)) := by
  rw [Nat.add_comm]; exact hb.held hk

/-- A pointer to a table: none, or one that there is. -/
def TP (w : World) (p : Option Addr) (h : Option (List Int)) : Prop := (p = none ∧ h = none) ∨ ∃ g l, p = some ⟨g, 0, none⟩ ∧ h = some l ∧ l.length = 8 ∧ TB w g l

theorem there_nil (w : World) : Calls Tryz.prog 248 #[.pointer none] w fun e w' => e = .returned (.bool false) ∧ w = w' := by
  go_enter Tryz.func248, Tryz.ntmps248
  go_wp2
  go_ret
  exact ⟨rfl, rfl⟩
theorem there_some (w : World) (g : Nat) (h : List Int) (hb : TB w g h) : Calls Tryz.prog 248 #[.pointer (some ⟨g, 0, none⟩)] w fun e w' => e = .returned (.bool true) ∧ w = w' := by
  have c0 := hb.made
  clear hb
  go_enter Tryz.func248, Tryz.ntmps248
  go_wp2
  go_ret
  exact ⟨rfl, rfl⟩
def okC (c : Int) : Bool := decide (0 ≤ c ∧ c < 8)
def okL (l : Int) : Bool := decide (0 ≤ l ∧ l ≤ 3)
theorem isConn_any (w : World) (c : Int) : Calls Tryz.prog 274 #[.int .i64 c] w fun e w' => e = .returned (.bool (okC c)) ∧ w = w' := by
  by_cases h0 : 0 ≤ c
  · by_cases h1 : c < 8
    · go_enter Tryz.func274, Tryz.ntmps274
      go_wp2
      go_ret
      exact ⟨by simp [okC, h0, h1], rfl⟩
    · go_enter Tryz.func274, Tryz.ntmps274
      go_wp2
      go_ret
      exact ⟨by simp [okC, h1], rfl⟩
  · go_enter Tryz.func274, Tryz.ntmps274
    go_wp2
    go_ret
    exact ⟨by rw [show okC c = false from decide_eq_false (fun h => absurd h.1 (by omega))]; rfl, rfl⟩
theorem isLock_any (w : World) (c : Int) : Calls Tryz.prog 270 #[.int .i64 c] w fun e w' => e = .returned (.bool (okL c)) ∧ w = w' := by
  by_cases h0 : 0 ≤ c
  · by_cases h1 : c ≤ 3
    · go_enter Tryz.func270, Tryz.ntmps270
      go_wp2
      go_ret
      exact ⟨by simp [okL, h0, h1], rfl⟩
    · go_enter Tryz.func270, Tryz.ntmps270
      go_wp2
      go_ret
      exact ⟨by simp [okL, h1], rfl⟩
  · go_enter Tryz.func270, Tryz.ntmps270
    go_wp2
    go_ret
    exact ⟨by rw [show okL c = false from decide_eq_false (fun h => absurd h.1 (by omega))]; rfl, rfl⟩
/-- What is asked for may not be: its error. -/
def askE (c l : Int) : Int := if okC c && okL l then 0 else 2
theorem asked_nil (w : World) (c l : Int) : Calls Tryz.prog 269 #[.pointer none, .int .i64 c, .int .i64 l] w fun e w' => e = .returned (.int .i64 1) ∧ w = w' := by
  go_enter Tryz.func269, Tryz.ntmps269
  go_wp2_with (go_at_call 248; refine Calls.mono (there_nil _) ?_; rintro e w4 ⟨rfl, rfl⟩)
  go_ret
  exact ⟨rfl, rfl⟩
theorem asked_some (w : World) (g : Nat) (h : List Int) (hb : TB w g h) (c l : Int) : Calls Tryz.prog 269 #[.pointer (some ⟨g, 0, none⟩), .int .i64 c, .int .i64 l] w fun e w' => e = .returned (.int .i64 (askE c l)) ∧ w = w' := by
  have HT := hide (there_some w g h hb)
  clear hb
  cases hc : okC c <;> cases hl : okL l
  all_goals
    go_enter Tryz.func269, Tryz.ntmps269
    go_wp2_with (first
      | (go_at_call 248; refine Calls.mono HT.out ?_; rintro e w4 ⟨rfl, rfl⟩)
      | (go_at_call 274; refine Calls.mono (isConn_any _ _) ?_; rintro e w4 ⟨rfl, rfl⟩)
      | (go_at_call 270; refine Calls.mono (isLock_any _ _) ?_; rintro e w4 ⟨rfl, rfl⟩))
    go_ret
    exact ⟨by simp [askE, hc, hl], rfl⟩
end Go.Proofs.YtadohcgplbihdaaGreat
