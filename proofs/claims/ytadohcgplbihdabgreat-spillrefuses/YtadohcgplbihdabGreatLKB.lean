/- Tables of locks in memory. -/
/- Whether a lock can be taken beside what the others hold: the program's closure and its switch. -/
import Derived.Test.YtadohcgplbihdabGreatTA
namespace Go.Proofs.YtadohcgplbihdabGreat
open Go.ChangeShapes Go.WideShapes Go.ChangeAt Go.RowKit
set_option linter.unusedVariables false

/-- What the connection k holds. -/
def gt (h : List Int) (k : Nat) : Int := h[k]?.getD 0
/-- Locks as cells. -/
def hcl (h : List Int) : List Value := h.map (fun x => .int .i64 x)
/-- A table as cells. -/
def tcl (m : Bool) (h : List Int) : List Value := .bool m :: hcl h
theorem hcl_length (h : List Int) : (hcl h).length = h.length := by simp [hcl]
theorem tcl_length (m : Bool) (h : List Int) : (tcl m h).length = h.length + 1 := by simp [tcl, hcl]
theorem hcl_get {h : List Int} {k : Nat} (hk : k < h.length) : (hcl h)[k]? = some (.int .i64 (gt h k)) := by simp [hcl, gt, hk]
theorem tcl_get (m : Bool) {h : List Int} {k : Nat} (hk : k < h.length) : (tcl m h)[k + 1]? = some (.int .i64 (gt h k)) := by
  simp only [tcl, List.getElem?_cons_succ]; exact hcl_get hk
theorem gt_set {h : List Int} {k : Nat} (hk : k < h.length) (x : Int) (j : Nat) : gt (h.set k x) j = if j = k then x else gt h j := by
  unfold gt
  rw [List.getElem?_set]
  by_cases e : k = j
  · subst e; simp [hk]
  · rw [if_neg e, if_neg (Ne.symm e)]
theorem tcl_set (m : Bool) (h : List Int) (k : Nat) (x : Int) : (tcl m h).toArray.setIfInBounds (k + 1) (.int .i64 x) = (tcl m (h.set k x)).toArray := by
  simp [tcl, hcl, List.map_set]
theorem tcl_one (m : Bool) (h : List Int) : ∀ v ∈ tcl m h, v.oneCell' = true := by
  intro v hv
  simp only [tcl, hcl, List.mem_cons, List.mem_map] at hv
  rcases hv with rfl | ⟨b, _, rfl⟩ <;> rfl

/-- A table of the program; one of the document. -/
abbrev TB (w : World) (g : Nat) (h : List Int) : Prop := Blk w g (tcl true h).toArray 196
theorem Blk.made {w : World} {g : Nat} {m : Bool} {h : List Int} {t : TypeId} (hb : Blk w g (tcl m h).toArray t) : w.cell? ⟨g, 0, none⟩ = some (.bool m) := by
  rw [hb.cell]; simp [tcl]
theorem Blk.held {w : World} {g : Nat} {m : Bool} {h : List Int} {t : TypeId} (hb : Blk w g (tcl m h).toArray t) {k : Nat} (hk : k < h.length) : w.cell? ⟨g, k + 1, none⟩ = some (.int .i64 (gt h k)) := by
  rw [hb.cell]; simpa using tcl_get m hk
theorem Blk.held' {w : World} {g : Nat} {m : Bool} {h : List Int} {t : TypeId} (hb : Blk w g (tcl m h).toArray t) {k : Nat} (hk : k < h.length) : w.cell? ⟨g, 1 + k, none⟩ = some (.int .i64 (gt h k)) := by
  rw [Nat.add_comm]; exact hb.held hk

/-- A pointer to a table: none, or one that there is. -/
def TP (w : World) (p : Option Addr) (h : Option (List Int)) : Prop := (p = none ∧ h = none) ∨ ∃ g l, p = some ⟨g, 0, none⟩ ∧ h = some l ∧ l.length = 8 ∧ TB w g l

theorem there_nil (w : World) : Calls Tryz.prog 260 #[.pointer none] w fun e w' => e = .returned (.bool false) ∧ w = w' := by
  go_enter Tryz.func260, Tryz.ntmps260
  go_wp2
  go_ret
  exact ⟨rfl, rfl⟩
theorem there_some (w : World) (g : Nat) (h : List Int) (hb : TB w g h) : Calls Tryz.prog 260 #[.pointer (some ⟨g, 0, none⟩)] w fun e w' => e = .returned (.bool true) ∧ w = w' := by
  have c0 := hb.made
  clear hb
  go_enter Tryz.func260, Tryz.ntmps260
  go_wp2
  go_ret
  exact ⟨rfl, rfl⟩
def okC (c : Int) : Bool := decide (0 ≤ c ∧ c < 8)
def okL (l : Int) : Bool := decide (0 ≤ l ∧ l ≤ 3)
theorem isConn_any (w : World) (c : Int) : Calls Tryz.prog 280 #[.int .i64 c] w fun e w' => e = .returned (.bool (okC c)) ∧ w = w' := by
  by_cases h0 : 0 ≤ c
  · by_cases h1 : c < 8
    · go_enter Tryz.func280, Tryz.ntmps280
      go_wp2
      go_ret
      exact ⟨by simp [okC, h0, h1], rfl⟩
    · go_enter Tryz.func280, Tryz.ntmps280
      go_wp2
      go_ret
      exact ⟨by simp [okC, h1], rfl⟩
  · go_enter Tryz.func280, Tryz.ntmps280
    go_wp2
    go_ret
    exact ⟨by rw [show okC c = false from decide_eq_false (fun h => absurd h.1 (by omega))]; rfl, rfl⟩
theorem isLock_any (w : World) (c : Int) : Calls Tryz.prog 281 #[.int .i64 c] w fun e w' => e = .returned (.bool (okL c)) ∧ w = w' := by
  by_cases h0 : 0 ≤ c
  · by_cases h1 : c ≤ 3
    · go_enter Tryz.func281, Tryz.ntmps281
      go_wp2
      go_ret
      exact ⟨by simp [okL, h0, h1], rfl⟩
    · go_enter Tryz.func281, Tryz.ntmps281
      go_wp2
      go_ret
      exact ⟨by simp [okL, h1], rfl⟩
  · go_enter Tryz.func281, Tryz.ntmps281
    go_wp2
    go_ret
    exact ⟨by rw [show okL c = false from decide_eq_false (fun h => absurd h.1 (by omega))]; rfl, rfl⟩
/-- What is asked for may not be: its error. -/
def askE (c l : Int) : Int := if okC c && okL l then 0 else 2
theorem asked_nil (w : World) (c l : Int) : Calls Tryz.prog 277 #[.pointer none, .int .i64 c, .int .i64 l] w fun e w' => e = .returned (.int .i64 1) ∧ w = w' := by
  go_enter Tryz.func277, Tryz.ntmps277
  go_wp2_with (go_at_call 260; refine Calls.mono (there_nil _) ?_; rintro e w4 ⟨rfl, rfl⟩)
  go_ret
  exact ⟨rfl, rfl⟩
theorem asked_some (w : World) (g : Nat) (h : List Int) (hb : TB w g h) (c l : Int) : Calls Tryz.prog 277 #[.pointer (some ⟨g, 0, none⟩), .int .i64 c, .int .i64 l] w fun e w' => e = .returned (.int .i64 (askE c l)) ∧ w = w' := by
  have HT := hide (there_some w g h hb)
  clear hb
  cases hc : okC c <;> cases hl : okL l
  all_goals
    go_enter Tryz.func277, Tryz.ntmps277
    go_wp2_with (first
      | (go_at_call 260; refine Calls.mono HT.out ?_; rintro e w4 ⟨rfl, rfl⟩)
      | (go_at_call 280; refine Calls.mono (isConn_any _ _) ?_; rintro e w4 ⟨rfl, rfl⟩)
      | (go_at_call 281; refine Calls.mono (isLock_any _ _) ?_; rintro e w4 ⟨rfl, rfl⟩))
    go_ret
    exact ⟨by simp [askE, hc, hl], rfl⟩
end Go.Proofs.YtadohcgplbihdabGreat

namespace Go.Proofs.YtadohcgplbihdabGreat
open Go.ChangeShapes Go.WideShapes Go.ChangeAt Go.RowKit
set_option linter.unusedVariables false

/-- Another connection holds just that. -/
def anoB (h : List Int) (c x : Int) : Bool := (List.range 8).any fun i => decide ((i : Int) ≠ c) && decide (gt h i = x)
theorem anoB_iff (h : List Int) (c x : Int) : anoB h c x = true ↔ ∃ i : Nat, i < 8 ∧ (i : Int) ≠ c ∧ gt h i = x := by
  simp only [anoB, List.any_eq_true, List.mem_range, Bool.and_eq_true, decide_eq_true_eq]
theorem held_range {w : World} {g : Nat} {m : Bool} {h : List Int} {t : TypeId} (hb : Blk w g (tcl m h).toArray t) : w.rangeAt g 1 (hcl h) := by
  intro j v hv
  have hj : j < h.length := by have := (List.getElem?_eq_some_iff.1 hv).1; rwa [hcl_length] at this
  rw [hcl_get hj] at hv
  cases hv
  exact hb.held' hj
theorem u44 : ∃ d, Tryz.prog.underlying 194 = some d ∧ d.isRow = true := ⟨_, Tryz.underlying194, rfl⟩
theorem i44 {h : List Int} (h8 : h.length = 8) : (Tryz.prog.info? 194).map (·.size) = some (hcl h).length := by
  rw [hcl_length, h8]; kernel_rfl
theorem wp_loadH {ops : Array Oper} {rest : List Oper} {o : Oper} {a : Act} {Q : Exit → Act → World → Prop} {w : World} {g : Nat} {h : List Int} (h8 : h.length = 8) (hg : w.rangeAt g 1 (hcl h)) (x : Operand)
    (hgd : o.guard = none) (ho : o.op = .load 194 x) (hx : a.eval x = .pointer (some ⟨g, 1, none⟩)) (hk : wpList Tryz.prog ops Q rest (a.put o.dst (.agg (hcl h).toArray)) w) : wpList Tryz.prog ops Q (o :: rest) a w := by
  obtain ⟨d, hd, hr⟩ := u44
  exact wpList_load_mid hgd 194 x ho g 1 hx (hcl h) d hg hd hr (i44 h8) hk

theorem index_held (W : World) {h : List Int} (h8 : h.length = 8) {j : Nat} (hj : j < 8) :
    (Instr.index 194 (.agg (hcl h).toArray) (.int .i64 j)).run Tryz.prog W = .ok (.int .i64 (gt h j)) W := by
  have hn : (0 : Int) ≤ (j : Int) ∧ (j : Int) < 8 := by omega
  have hx := hcl_get (h := h) (k := j) (by omega)
  simp [Instr.index, run_underlying Tryz.underlying194, asIntOf, go_sem, hj, hx]

set_option maxRecDepth 20000 in
set_option maxHeartbeats 1000000 in
theorem another_any (w : World) (g : Nat) (h : List Int) (h8 : h.length = 8) (hb : TB w g h) (A C : Nat) (c x : Int)
    (hA : w.cell? ⟨A, 0, none⟩ = some (.pointer (some ⟨g, 0, none⟩))) (hC : w.cell? ⟨C, 0, none⟩ = some (.int .i64 c)) :
    Calls Tryz.prog 283 #[.int .i64 x, .pointer (some ⟨A, 0, none⟩), .pointer (some ⟨C, 0, none⟩)] w fun e w' => e = .returned (.bool (anoB h c x)) ∧ w = w' := by
  have HR := hide (held_range hb)
  have H8 := hide h8
  clear hb h8
  go_enter Tryz.func283, Tryz.ntmps283
  go_wp2_with (first
    | (refine wp_loadH H8.out HR.out _ (by rfl) (by rfl) (by rfl) ?_))
  go_loopw [11] (fun iv wr => ∃ j : Nat, j ≤ 8 ∧ iv = .int .i64 (j : Int) ∧ wr = w ∧ ∀ i, i < j → (i : Int) ≠ c → gt h i ≠ x) (fun iv _ => 8 - (intOf iv).toNat)
  case atStart => exact ⟨0, Nat.zero_le _, rfl, rfl, fun i hi => by omega⟩
  case round =>
    obtain ⟨j, hj, rfl, rfl, hno⟩ := hrel
    have HNo := hide hno
    clear hno
    by_cases hlt : j < 8
    · have l1 : (j : Int) < 8 := by omega
      have l0 : (0 : Int) ≤ (j : Int) := by omega
      have hw1 : IntKind.i64.wrap ((j : Int) + 1) = (j : Int) + 1 := by rw [IntKind.wrap_i64]; omega
      have hx := index_held wr H8.out hlt
      by_cases e1 : c = (j : Int)
      · subst e1
        go_wp2
        refine ⟨⟨j + 1, hlt, rfl, by trivial, fun i hi hne => ?_⟩, ?_⟩
        · by_cases e : i = j
          · subst e; exact absurd rfl hne
          · exact HNo.out i (by omega) hne
        · simp only [intOf]; omega
      · have e2 : ¬ (j : Int) = c := fun h => e1 h.symm
        by_cases e3 : gt h j = x
        · subst e3
          clear e1
          go_wp2
          go_ret
          refine ⟨?_, rfl⟩
          rw [(anoB_iff h c (gt h j)).2 ⟨j, hlt, e2, rfl⟩]
          rfl
        · clear e1
          have b1 : ((j : Int) != c) = true := by simpa using e2
          have b2 : (gt h j == x) = false := by simpa using e3
          go_wp2
          refine ⟨⟨j + 1, hlt, rfl, by trivial, fun i hi hne => ?_⟩, ?_⟩
          · by_cases e : i = j
            · subst e; exact e3
            · exact HNo.out i (by omega) hne
          · simp only [intOf]; omega
    · obtain rfl : j = 8 := by omega
      go_wp2
      go_ret
      refine ⟨?_, rfl⟩
      have : anoB h c x = false := by
        rw [← Bool.not_eq_true, anoB_iff]
        rintro ⟨i, h1, h2, h3⟩
        exact HNo.out i h1 h2 h3
      rw [this]
      rfl

end Go.Proofs.YtadohcgplbihdabGreat
