/- Tables of locks in memory. -/
/- Whether a lock can be taken beside what the others hold: the program's closure and its switch. -/
/- Whether a lock can be taken beside what the others hold: the program's switch. -/
/- A table: made, copied, asked, and changed. -/
import Derived.Test.YthgclfhfipfknaaGreatTA
namespace Go.Proofs.YthgclfhfipfknaaGreat
open Go.ChangeShapes Go.WideShapes Go.ChangeAt Go.RowKit
set_option linter.unusedVariables false

/-- What the connection k holds. -/
def gt (h : List Int) (k : Nat) : Int := h[k]?.getD 0
/-- Locks as cells. -/
def hcl (h : List Int) : List Value := h.map (fun x => .int .i64 x)
/-- A table as cells. -/
def tcl (m : Bool) (h : List Int) : List Value := .bool m :: hcl h
theorem hcl_length (h : List Int) : (hcl h).length = h.length := by simp [hcl]
theorem tcl_length (m : Bool) (h : List Int) : (tcl m h).length = h.length + 1 := by simp [tcl, hcl]
theorem hcl_get {h : List Int} {k : Nat} (hk : k < h.length) : (hcl h)[k]? = some (.int .i64 (gt h k)) := by simp [hcl, gt, hk]
theorem tcl_get (m : Bool) {h : List Int} {k : Nat} (hk : k < h.length) : (tcl m h)[k + 1]? = some (.int .i64 (gt h k)) := by
  simp only [tcl, List.getElem?_cons_succ]; exact hcl_get hk
theorem gt_set {h : List Int} {k : Nat} (hk : k < h.length) (x : Int) (j : Nat) : gt (h.set k x) j = if j = k then x else gt h j := by
  unfold gt
  rw [List.getElem?_set]
  by_cases e : k = j
  · subst e; simp [hk]
  · rw [if_neg e, if_neg (Ne.symm e)]
theorem tcl_set (m : Bool) (h : List Int) (k : Nat) (x : Int) : (tcl m h).toArray.setIfInBounds (k + 1) (.int .i64 x) = (tcl m (h.set k x)).toArray := by
  simp [tcl, hcl, List.map_set]
theorem tcl_one (m : Bool) (h : List Int) : ∀ v ∈ tcl m h, v.oneCell' = true := by
  intro v hv
  simp only [tcl, hcl, List.mem_cons, List.mem_map] at hv
  rcases hv with rfl | ⟨b, _, rfl⟩ <;> rfl

/-- A table of the program; one of the document. -/
abbrev TB (w : World) (g : Nat) (h : List Int) : Prop := Blk w g (tcl true h).toArray 241
theorem Blk.made {w : World} {g : Nat} {m : Bool} {h : List Int} {t : TypeId} (hb : Blk w g (tcl m h).toArray t) : w.cell? ⟨g, 0, none⟩ = some (.bool m) := by
  rw [hb.cell]; simp [tcl]
theorem Blk.held {w : World} {g : Nat} {m : Bool} {h : List Int} {t : TypeId} (hb : Blk w g (tcl m h).toArray t) {k : Nat} (hk : k < h.length) : w.cell? ⟨g, k + 1, none⟩ = some (.int .i64 (gt h k)) := by
  rw [hb.cell]; simpa using tcl_get m hk
theorem Blk.held' {w : World} {g : Nat} {m : Bool} {h : List Int} {t : TypeId} (hb : Blk w g (tcl m h).toArray t) {k : Nat} (hk : k < h.length) : w.cell? ⟨g, 1 + k, none⟩ = some (.int .i64 (gt h k)) := by
  rw [Nat.add_comm]; exact hb.held hk

/-- A pointer to a table: none, or one that there is. -/
def TP (w : World) (p : Option Addr) (h : Option (List Int)) : Prop := (p = none ∧ h = none) ∨ ∃ g l, p = some ⟨g, 0, none⟩ ∧ h = some l ∧ l.length = 8 ∧ TB w g l

theorem there_nil (w : World) : Calls Tryz.prog 353 #[.pointer none] w fun e w' => e = .returned (.bool false) ∧ w = w' := by
  go_enter Tryz.func353, Tryz.ntmps353
  go_wp2
  go_ret
  exact ⟨rfl, rfl⟩
theorem there_some (w : World) (g : Nat) (h : List Int) (hb : TB w g h) : Calls Tryz.prog 353 #[.pointer (some ⟨g, 0, none⟩)] w fun e w' => e = .returned (.bool true) ∧ w = w' := by
  have c0 := hb.made
  clear hb
  go_enter Tryz.func353, Tryz.ntmps353
  go_wp2
  go_ret
  exact ⟨rfl, rfl⟩
def okC (c : Int) : Bool := decide (0 ≤ c ∧ c < 8)
def okL (l : Int) : Bool := decide (0 ≤ l ∧ l ≤ 3)
theorem isConn_any (w : World) (c : Int) : Calls Tryz.prog 373 #[.int .i64 c] w fun e w' => e = .returned (.bool (okC c)) ∧ w = w' := by
  by_cases h0 : 0 ≤ c
  · by_cases h1 : c < 8
    · go_enter Tryz.func373, Tryz.ntmps373
      go_wp2
      go_ret
      exact ⟨by simp [okC, h0, h1], rfl⟩
    · go_enter Tryz.func373, Tryz.ntmps373
      go_wp2
      go_ret
      exact ⟨by simp [okC, h1], rfl⟩
  · go_enter Tryz.func373, Tryz.ntmps373
    go_wp2
    go_ret
    exact ⟨by rw [show okC c = false from decide_eq_false (fun h => absurd h.1 (by omega))]; rfl, rfl⟩
theorem isLock_any (w : World) (c : Int) : Calls Tryz.prog 374 #[.int .i64 c] w fun e w' => e = .returned (.bool (okL c)) ∧ w = w' := by
  by_cases h0 : 0 ≤ c
  · by_cases h1 : c ≤ 3
    · go_enter Tryz.func374, Tryz.ntmps374
      go_wp2
      go_ret
      exact ⟨by simp [okL, h0, h1], rfl⟩
    · go_enter Tryz.func374, Tryz.ntmps374
      go_wp2
      go_ret
      exact ⟨by simp [okL, h1], rfl⟩
  · go_enter Tryz.func374, Tryz.ntmps374
    go_wp2
    go_ret
    exact ⟨by rw [show okL c = false from decide_eq_false (fun h => absurd h.1 (by omega))]; rfl, rfl⟩
/-- What is asked for may not be: its error. -/
def askE (c l : Int) : Int := if okC c && okL l then 0 else 2
theorem asked_nil (w : World) (c l : Int) : Calls Tryz.prog 370 #[.pointer none, .int .i64 c, .int .i64 l] w fun e w' => e = .returned (.int .i64 1) ∧ w = w' := by
  go_enter Tryz.func370, Tryz.ntmps370
  go_wp2_with (go_at_call 353; refine Calls.mono (there_nil _) ?_; rintro e w4 ⟨rfl, rfl⟩)
  go_ret
  exact ⟨rfl, rfl⟩
theorem asked_some (w : World) (g : Nat) (h : List Int) (hb : TB w g h) (c l : Int) : Calls Tryz.prog 370 #[.pointer (some ⟨g, 0, none⟩), .int .i64 c, .int .i64 l] w fun e w' => e = .returned (.int .i64 (askE c l)) ∧ w = w' := by
  have HT := hide (there_some w g h hb)
  clear hb
  cases hc : okC c <;> cases hl : okL l
  all_goals
    go_enter Tryz.func370, Tryz.ntmps370
    go_wp2_with (first
      | (go_at_call 353; refine Calls.mono HT.out ?_; rintro e w4 ⟨rfl, rfl⟩)
      | (go_at_call 373; refine Calls.mono (isConn_any _ _) ?_; rintro e w4 ⟨rfl, rfl⟩)
      | (go_at_call 374; refine Calls.mono (isLock_any _ _) ?_; rintro e w4 ⟨rfl, rfl⟩))
    go_ret
    exact ⟨by simp [askE, hc, hl], rfl⟩
end Go.Proofs.YthgclfhfipfknaaGreat

namespace Go.Proofs.YthgclfhfipfknaaGreat
open Go.ChangeShapes Go.WideShapes Go.ChangeAt Go.RowKit
set_option linter.unusedVariables false

/-- Another connection holds just that. -/
def anoB (h : List Int) (c x : Int) : Bool := (List.range 8).any fun i => decide ((i : Int) ≠ c) && decide (gt h i = x)
theorem anoB_iff (h : List Int) (c x : Int) : anoB h c x = true ↔ ∃ i : Nat, i < 8 ∧ (i : Int) ≠ c ∧ gt h i = x := by
  simp only [anoB, List.any_eq_true, List.mem_range, Bool.and_eq_true, decide_eq_true_eq]
theorem held_range {w : World} {g : Nat} {m : Bool} {h : List Int} {t : TypeId} (hb : Blk w g (tcl m h).toArray t) : w.rangeAt g 1 (hcl h) := by
  intro j v hv
  have hj : j < h.length := by have := (List.getElem?_eq_some_iff.1 hv).1; rwa [hcl_length] at this
  rw [hcl_get hj] at hv
  cases hv
  exact hb.held' hj
theorem u44 : ∃ d, Tryz.prog.underlying 239 = some d ∧ d.isRow = true := ⟨_, Tryz.underlying239, rfl⟩
theorem i44 {h : List Int} (h8 : h.length = 8) : (Tryz.prog.info? 239).map (·.size) = some (hcl h).length := by
  rw [hcl_length, h8]; kernel_rfl
theorem wp_loadH {ops : Array Oper} {rest : List Oper} {o : Oper} {a : Act} {Q : Exit → Act → World → Prop} {w : World} {g : Nat} {h : List Int} (h8 : h.length = 8) (hg : w.rangeAt g 1 (hcl h)) (x : Operand)
    (hgd : o.guard = none) (ho : o.op = .load 239 x) (hx : a.eval x = .pointer (some ⟨g, 1, none⟩)) (hk : wpList Tryz.prog ops Q rest (a.put o.dst (.agg (hcl h).toArray)) w) : wpList Tryz.prog ops Q (o :: rest) a w := by
  obtain ⟨d, hd, hr⟩ := u44
  exact wpList_load_mid hgd 239 x ho g 1 hx (hcl h) d hg hd hr (i44 h8) hk

theorem index_held (W : World) {h : List Int} (h8 : h.length = 8) {j : Nat} (hj : j < 8) :
    (Instr.index 239 (.agg (hcl h).toArray) (.int .i64 j)).run Tryz.prog W = .ok (.int .i64 (gt h j)) W := by
  have hn : (0 : Int) ≤ (j : Int) ∧ (j : Int) < 8 := by omega
  have hx := hcl_get (h := h) (k := j) (by omega)
  simp [Instr.index, run_underlying Tryz.underlying239, asIntOf, go_sem, hj, hx]

set_option maxRecDepth 20000 in
set_option maxHeartbeats 1000000 in
theorem another_any (w : World) (g : Nat) (h : List Int) (h8 : h.length = 8) (hb : TB w g h) (A C : Nat) (c x : Int)
    (hA : w.cell? ⟨A, 0, none⟩ = some (.pointer (some ⟨g, 0, none⟩))) (hC : w.cell? ⟨C, 0, none⟩ = some (.int .i64 c)) :
    Calls Tryz.prog 376 #[.int .i64 x, .pointer (some ⟨A, 0, none⟩), .pointer (some ⟨C, 0, none⟩)] w fun e w' => e = .returned (.bool (anoB h c x)) ∧ w = w' := by
  have HR := hide (held_range hb)
  have H8 := hide h8
  clear hb h8
  go_enter Tryz.func376, Tryz.ntmps376
  go_wp2_with (first
    | (refine wp_loadH H8.out HR.out _ (by rfl) (by rfl) (by rfl) ?_))
  go_loopw [11] (fun iv wr => ∃ j : Nat, j ≤ 8 ∧ iv = .int .i64 (j : Int) ∧ wr = w ∧ ∀ i, i < j → (i : Int) ≠ c → gt h i ≠ x) (fun iv _ => 8 - (intOf iv).toNat)
  case atStart => exact ⟨0, Nat.zero_le _, rfl, rfl, fun i hi => by omega⟩
  case round =>
    obtain ⟨j, hj, rfl, rfl, hno⟩ := hrel
    have HNo := hide hno
    clear hno
    by_cases hlt : j < 8
    · have l1 : (j : Int) < 8 := by omega
      have l0 : (0 : Int) ≤ (j : Int) := by omega
      have hw1 : IntKind.i64.wrap ((j : Int) + 1) = (j : Int) + 1 := by rw [IntKind.wrap_i64]; omega
      have hx := index_held wr H8.out hlt
      by_cases e1 : c = (j : Int)
      · subst e1
        go_wp2
        refine ⟨⟨j + 1, hlt, rfl, by trivial, fun i hi hne => ?_⟩, ?_⟩
        · by_cases e : i = j
          · subst e; exact absurd rfl hne
          · exact HNo.out i (by omega) hne
        · simp only [intOf]; omega
      · have e2 : ¬ (j : Int) = c := fun h => e1 h.symm
        by_cases e3 : gt h j = x
        · subst e3
          clear e1
          go_wp2
          go_ret
          refine ⟨?_, rfl⟩
          rw [(anoB_iff h c (gt h j)).2 ⟨j, hlt, e2, rfl⟩]
          rfl
        · clear e1
          have b1 : ((j : Int) != c) = true := by simpa using e2
          have b2 : (gt h j == x) = false := by simpa using e3
          go_wp2
          refine ⟨⟨j + 1, hlt, rfl, by trivial, fun i hi hne => ?_⟩, ?_⟩
          · by_cases e : i = j
            · subst e; exact e3
            · exact HNo.out i (by omega) hne
          · simp only [intOf]; omega
    · obtain rfl : j = 8 := by omega
      go_wp2
      go_ret
      refine ⟨?_, rfl⟩
      have : anoB h c x = false := by
        rw [← Bool.not_eq_true, anoB_iff]
        rintro ⟨i, h1, h2, h3⟩
        exact HNo.out i h1 h2 h3
      rw [this]
      rfl

end Go.Proofs.YthgclfhfipfknaaGreat

namespace Go.Proofs.YthgclfhfipfknaaGreat
open Go.ChangeShapes Go.WideShapes Go.ChangeAt Go.RowKit
set_option linter.unusedVariables false

/-- Can it be taken? -/
def frB (h : List Int) (c l : Int) : Bool := !((l == 3 && anoB h c 1) || ((l == 3 || l == 2) && anoB h c 2) || ((l == 3 || l == 2 || l == 1) && anoB h c 3))
set_option maxRecDepth 20000 in
set_option maxHeartbeats 1000000 in
theorem free_any (w : World) (g : Nat) (h : List Int) (h8 : h.length = 8) (hb : TB w g h) (c l : Int) :
    Calls Tryz.prog 372 #[.pointer (some ⟨g, 0, none⟩), .int .i64 c, .int .i64 l] w fun e w' => e = .returned (.bool (frB h c l)) ∧ Only [] w w' := by
  obtain ⟨W, hW⟩ : ∃ W, W = (w.alloc (.cells #[.pointer (some ⟨g, 0, none⟩)] 128)).alloc (.cells #[.int .i64 c] 3) := ⟨_, rfl⟩
  have HO : Hid (Only [] w W) := by rw [hW]; exact (Only.alloc _ _ _).trans (Only.alloc _ _ _)
  have HB : Hid (TB W g h) := HO.out.blk hb (by simp)
  have HA : Hid (W.cell? ⟨w.heap.size, 0, none⟩ = some (.pointer (some ⟨g, 0, none⟩))) := by
    have h1 := Blk.new w #[.pointer (some ⟨g, 0, none⟩)] 128
    have h2 : Blk W w.heap.size #[.pointer (some ⟨g, 0, none⟩)] 128 := by rw [hW]; exact (Only.alloc _ _ []).blk h1 (by simp)
    exact (h2.cell 0).trans rfl
  have HC : Hid (W.cell? ⟨w.heap.size + 1, 0, none⟩ = some (.int .i64 c)) := by
    have h1 := Blk.new (w.alloc (.cells #[.pointer (some ⟨g, 0, none⟩)] 128)) #[.int .i64 c] 3
    have h2 : Blk W (w.heap.size + 1) #[.int .i64 c] 3 := by rw [hW]; simpa using h1
    exact (h2.cell 0).trans rfl
  have HK := hide (fun x => another_any W g h h8 HB.out w.heap.size (w.heap.size + 1) c x HA.out HC.out)
  have HF : Hid (frB h c l = !((l == 3 && anoB h c 1) || ((l == 3 || l == 2) && anoB h c 2) || ((l == 3 || l == 2 || l == 1) && anoB h c 3))) := rfl
  clear hb h8 HB HA HC
  subst hW
  by_cases l3 : l = 3
  · subst l3
    cases a1 : anoB h c 1 with
    | true =>
      go_enter Tryz.func372, Tryz.ntmps372
      go_wp2_with (go_at_call 376; with_reducible refine Calls.mono (HK.out _) ?_; rintro e w4 ⟨rfl, rfl⟩)
      go_ret
      exact ⟨by rw [HF.out, a1]; rfl, HO.out⟩
    | false =>
    cases a2 : anoB h c 2 with
    | true =>
      go_enter Tryz.func372, Tryz.ntmps372
      go_wp2_with (go_at_call 376; with_reducible refine Calls.mono (HK.out _) ?_; rintro e w4 ⟨rfl, rfl⟩)
      go_ret
      exact ⟨by rw [HF.out, a1, a2]; rfl, HO.out⟩
    | false =>
    cases a3 : anoB h c 3
    all_goals
      go_enter Tryz.func372, Tryz.ntmps372
      go_wp2_with (go_at_call 376; with_reducible refine Calls.mono (HK.out _) ?_; rintro e w4 ⟨rfl, rfl⟩)
      go_ret
      exact ⟨by rw [HF.out, a1, a2, a3]; rfl, HO.out⟩
  have e3 : (l == 3) = false := by simpa using l3
  by_cases l2 : l = 2
  · subst l2
    clear l3
    cases a2 : anoB h c 2 with
    | true =>
      go_enter Tryz.func372, Tryz.ntmps372
      go_wp2_with (go_at_call 376; with_reducible refine Calls.mono (HK.out _) ?_; rintro e w4 ⟨rfl, rfl⟩)
      go_ret
      exact ⟨by rw [HF.out, a2]; rfl, HO.out⟩
    | false =>
    cases a3 : anoB h c 3
    all_goals
      go_enter Tryz.func372, Tryz.ntmps372
      go_wp2_with (go_at_call 376; with_reducible refine Calls.mono (HK.out _) ?_; rintro e w4 ⟨rfl, rfl⟩)
      go_ret
      exact ⟨by rw [HF.out, a2, a3]; rfl, HO.out⟩
  have e2 : (l == 2) = false := by simpa using l2
  by_cases l1 : l = 1
  · subst l1
    clear l3 l2
    cases a3 : anoB h c 3
    all_goals
      go_enter Tryz.func372, Tryz.ntmps372
      go_wp2_with (go_at_call 376; with_reducible refine Calls.mono (HK.out _) ?_; rintro e w4 ⟨rfl, rfl⟩)
      go_ret
      exact ⟨by rw [HF.out, a3]; rfl, HO.out⟩
  have e1 : (l == 1) = false := by simpa using l1
  clear HK
  go_enter Tryz.func372, Tryz.ntmps372
  go_wp2
  go_ret
  exact ⟨by rw [HF.out, e1, e2, e3]; rfl, HO.out⟩
end Go.Proofs.YthgclfhfipfknaaGreat

namespace Go.Proofs.YthgclfhfipfknaaGreat
open Go.ChangeShapes Go.WideShapes Go.ChangeAt Go.RowKit
set_option linter.unusedVariables false

/-- Nobody holds a lock. -/
def h0 : List Int := List.replicate 8 0
theorem h0_length : h0.length = 8 := rfl
theorem gt_h0 (k : Nat) : gt h0 k = 0 := by
  unfold gt h0
  rw [List.getElem?_replicate]
  split <;> rfl
theorem info46 : (Tryz.prog.info? 241).map (·.size) = some 9 := by kernel_rfl

theorem new_any (w : World) : Calls Tryz.prog 63 #[] w fun e w' => e = .returned (.pointer (some ⟨w.heap.size, 0, none⟩)) ∧ TB w' w.heap.size h0 ∧ Only [] w w' := by
  have HN := hide (Blk.new w (tcl true h0).toArray 241)
  have HO := hide (Only.alloc w (.cells (tcl true h0).toArray 241) [])
  go_enter Tryz.func63, Tryz.ntmps63
  go_wp2
  go_ret
  exact ⟨rfl, HN.out, HO.out⟩

theorem has_nil (w : World) (c : Int) : Calls Tryz.prog 385 #[.pointer none, .int .i64 c] w fun e w' => e = .returned (.int .i64 0) ∧ w = w' := by
  go_enter Tryz.func385, Tryz.ntmps385
  go_wp2_with (go_at_call 353; refine Calls.mono (there_nil _) ?_; rintro e w4 ⟨rfl, rfl⟩)
  go_ret
  exact ⟨rfl, rfl⟩
theorem has_in (w : World) (g : Nat) (h : List Int) (h8 : h.length = 8) (hb : TB w g h) (k : Nat) (hk : k < 8) : Calls Tryz.prog 385 #[.pointer (some ⟨g, 0, none⟩), .int .i64 k] w fun e w' => e = .returned (.int .i64 (gt h k)) ∧ w = w' := by
  have HT := hide (there_some w g h hb)
  have ck := hb.held' (k := k) (by omega)
  have hc : okC (k : Int) = true := decide_eq_true (by omega)
  have l0 : (0 : Int) ≤ (k : Int) := by omega
  have l1 : (k : Int) < 8 := by omega
  clear hb h8
  go_enter Tryz.func385, Tryz.ntmps385
  go_wp2_with (first
      | (go_at_call 353; refine Calls.mono HT.out ?_; rintro e w4 ⟨rfl, rfl⟩)
      | (go_at_call 373; refine Calls.mono (isConn_any _ _) ?_; rintro e w4 ⟨rfl, rfl⟩))
  go_ret
  exact ⟨rfl, rfl⟩
theorem has_out (w : World) (g : Nat) (h : List Int) (hb : TB w g h) (c : Int) (hc : okC c = false) : Calls Tryz.prog 385 #[.pointer (some ⟨g, 0, none⟩), .int .i64 c] w fun e w' => e = .returned (.int .i64 0) ∧ w = w' := by
  have HT := hide (there_some w g h hb)
  clear hb
  go_enter Tryz.func385, Tryz.ntmps385
  go_wp2_with (first
      | (go_at_call 353; refine Calls.mono HT.out ?_; rintro e w4 ⟨rfl, rfl⟩)
      | (go_at_call 373; refine Calls.mono (isConn_any _ _) ?_; rintro e w4 ⟨rfl, rfl⟩))
  go_ret
  exact ⟨rfl, rfl⟩

/-- What Take answers, and what is held then. -/
def tkE (h : List Int) (c l : Int) : Int := if askE c l = 0 then (if l ≤ gt h c.toNat then 0 else if frB h c l then 0 else 6) else 2
def tkH (h : List Int) (c l : Int) : List Int := if askE c l = 0 ∧ ¬ l ≤ gt h c.toNat ∧ frB h c l = true then h.set c.toNat l else h
theorem tkH_length (h : List Int) (c l : Int) : (tkH h c l).length = h.length := by unfold tkH; split <;> simp
theorem take_nil (w : World) (c l : Int) : Calls Tryz.prog 368 #[.pointer none, .int .i64 c, .int .i64 l] w fun e w' => e = .returned (.int .i64 1) ∧ w = w' := by
  go_enter Tryz.func368, Tryz.ntmps368
  go_wp2_with (go_at_call 370; refine Calls.mono (asked_nil _ _ _) ?_; rintro e w4 ⟨rfl, rfl⟩)
  go_ret
  exact ⟨rfl, rfl⟩
set_option maxRecDepth 20000 in
set_option maxHeartbeats 1000000 in
theorem take_some (w : World) (g : Nat) (h : List Int) (h8 : h.length = 8) (hb : TB w g h) (c l : Int) : Calls Tryz.prog 368 #[.pointer (some ⟨g, 0, none⟩), .int .i64 c, .int .i64 l] w fun e w' => e = .returned (.int .i64 (tkE h c l)) ∧ TB w' g (tkH h c l) ∧ Only [g] w w' := by
  have HA := hide (asked_some w g h hb c l)
  have HB := hide hb
  by_cases ha : askE c l = 0
  · have hcl : okC c = true ∧ okL l = true := by
      unfold askE at ha
      cases h1 : okC c <;> cases h2 : okL l <;> simp [h1, h2] at ha ⊢
    obtain ⟨k, rfl, hk⟩ : ∃ k : Nat, c = (k : Int) ∧ k < 8 := by
      have := of_decide_eq_true hcl.1
      exact ⟨c.toNat, by omega, by omega⟩
    have ck := hb.held' (k := k) (by omega)
    have l0 : (0 : Int) ≤ (k : Int) := by omega
    have l1 : (k : Int) < 8 := by omega
    have HF := hide (free_any w g h h8 hb (k : Int) l)
    have H8 := hide h8
    rw [ha] at HA
    have HE : Hid (tkE h (k : Int) l = if gt h k < l then (if frB h (k : Int) l then 0 else 6) else 0) := by
      show tkE h (k : Int) l = _
      unfold tkE
      rw [if_pos ha]
      show (if l ≤ gt h k then _ else _) = _
      by_cases e : l ≤ gt h k
      · rw [if_pos e, if_neg (by omega)]
      · have e2 : gt h k < l := by omega
        simp only [if_neg e, if_pos e2]
    have HH := hide (show tkH h (k : Int) l = if gt h k < l ∧ frB h (k : Int) l = true then h.set k l else h by
      unfold tkH; simp only [ha, true_and, Int.not_le]; rfl)
    clear hb h8 hcl ha
    by_cases e1 : l ≤ gt h k
    · go_enter Tryz.func368, Tryz.ntmps368
      go_wp2_with (go_at_call 370; with_reducible refine Calls.mono HA.out ?_; rintro e w4 ⟨rfl, rfl⟩)
      go_ret
      refine ⟨?_, ?_, Only.refl _ _⟩
      · rw [HE.out, if_neg (by omega)]; rfl
      · rw [HH.out, if_neg (by omega)]; exact HB.out
    · cases hf : frB h (k : Int) l with
      | false =>
        rw [hf] at HF
        go_enter Tryz.func368, Tryz.ntmps368
        go_wp2_with (first
          | (go_at_call 370; with_reducible refine Calls.mono HA.out ?_; rintro e w4 ⟨rfl, rfl⟩)
          | (go_at_call 372; with_reducible refine Calls.mono HF.out ?_; rintro e w4 ⟨rfl, ho⟩; have HO := hide ho; clear ho))
        go_ret
        refine ⟨?_, ?_, HO.out.mono (by simp)⟩
        · rw [HE.out, if_pos (by omega), hf]; rfl
        · rw [HH.out, if_neg (fun h => by rw [hf] at h; exact absurd h.2 (by decide))]; exact HO.out.blk HB.out (by simp)
      | true =>
        rw [hf] at HF
        go_enter Tryz.func368, Tryz.ntmps368
        go_wp2_with (first
          | (go_at_call 370; with_reducible refine Calls.mono HA.out ?_; rintro e w4 ⟨rfl, rfl⟩)
          | (go_at_call 372; with_reducible refine Calls.mono HF.out ?_; rintro e w4 ⟨rfl, ho⟩; have HO := hide ho; have HB4 := hide (Blk.only HB.out ho (by simp)); have c4 := HB4.out.held' (k := k) (by rw [H8.out]; exact hk); have f4 := HB4.out.frozen (1 + k); clear ho))
        go_ret
        refine ⟨?_, ?_, ?_⟩
        · rw [HE.out, if_pos (by omega), hf]; rfl
        · rw [HH.out, if_pos ⟨by omega, hf⟩]
          have := HB4.out.set (1 + k) (.int .i64 l)
          rw [Nat.add_comm 1 k, tcl_set] at this
          rw [Nat.add_comm 1 k]
          exact this
        · exact (HO.out.mono (by simp)).trans (Only.setCell w4 ⟨g, 1 + k, none⟩ _)
  · have HE : Hid (tkE h c l = 2) := by show tkE h c l = 2; unfold tkE; rw [if_neg ha]
    have HH : Hid (tkH h c l = h) := by show tkH h c l = h; unfold tkH; rw [if_neg (fun h => ha h.1)]
    have ha2 : askE c l = 2 := by unfold askE at ha ⊢; split <;> simp_all
    rw [ha2] at HA
    clear ha ha2 hb
    go_enter Tryz.func368, Tryz.ntmps368
    go_wp2_with (go_at_call 370; with_reducible refine Calls.mono HA.out ?_; rintro e w4 ⟨rfl, rfl⟩)
    go_ret
    exact ⟨by rw [HE.out]; rfl, by rw [HH.out]; exact HB.out, Only.refl _ _⟩
end Go.Proofs.YthgclfhfipfknaaGreat
