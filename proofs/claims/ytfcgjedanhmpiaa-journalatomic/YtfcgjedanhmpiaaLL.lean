/- Proved here: for every list of changes, every number and every list of crashes the Go function bureaulaw06.JournalAtomic returns true, whatever is in memory: whenever the machine stops, and however often it stops again on the way back, the database is after the restart what it was before the commit or what the commit made of it. No condition. -/
import Derived.Test.YtfcgjedanhmpiaaLK
import Derived.Test.YtfcgjedanhmpiaaRows
import Derived.SizedLaws
import Derived.Deep.Slices
import Derived.Carry
namespace Go.Proofs.Ytfcgjedanhmpiaa
open Go.ChangeShapes Go.WideShapes Go.ChangeAt Go.RowKit Go.Deep
set_option linter.unusedVariables false

theorem ownF : ownKnob Try.prog.godebug = none := by kernel_rfl
theorem laidOutF : laidOutB Try.prog = true := by kernel_rfl
theorem cells45 : Try.prog.cellsOf 45 = 2 := by kernel_rfl
theorem cells3c : Try.prog.cellsOf 3 = 1 := by kernel_rfl
theorem cells43c : Try.prog.cellsOf 43 = 1 := by kernel_rfl
theorem cells5c : Try.prog.cellsOf 5 = 1 := by kernel_rfl
theorem cells75c : Try.prog.cellsOf 75 = 2 := by kernel_rfl
theorem cells73c : Try.prog.cellsOf 73 = 1 := by kernel_rfl
theorem two_of {α : Type} {l : List α} (h : l.length = 2) : ∃ a b, l = [a, b] := by
  match l, h with
  | [a, b], _ => exact ⟨a, b, rfl⟩
theorem one_of {α : Type} {l : List α} (h : l.length = 1) : ∃ a, l = [a] := by
  match l, h with
  | [a], _ => exact ⟨a, rfl⟩
theorem u8_of {n : Int} (h : (Lit.int .u8 n).wf = true) : ∃ x : UInt8, n = (x.toNat : Int) := by
  simp only [Lit.wf, Bool.and_eq_true, decide_eq_true_eq] at h
  have e1 : IntKind.u8.min = 0 := by decide
  have e2 : IntKind.u8.max = 255 := by decide
  rw [e1, e2] at h
  refine ⟨UInt8.ofNat n.toNat, ?_⟩
  have : (UInt8.ofNat n.toNat).toNat = n.toNat % 256 := UInt8.toNat_ofNat'
  omega

theorem i64_le {n : Int} (h : (Lit.int .i64 n).wf = true) : n ≤ 9223372036854775807 := by
  simp only [Lit.wf, Bool.and_eq_true, decide_eq_true_eq] at h
  have e2 : IntKind.i64.max = 9223372036854775807 := by decide
  rw [e2] at h
  omega

set_option maxRecDepth 100000 in
theorem open_bytes {H : Type} {enc : TypeId × Value → H} {w : World} {fuel : Nat} {cs : List Value} {x : DataW H × List MemPlace} (h : DataW.trod enc Try.prog w 0 (fun _ => true) true fuel 43 cs = some x) :
    ∃ (p : Option Addr) (len cap : Nat) (B : Nat → UInt8), cs = [.slice p len cap] ∧ ByA w p len B := by
  rcases open_slice Try.underlying43 h with h0 | ⟨a, len, cap, m, n, D, Pl, rfl, hb, hl, hm, hmm, rfl, hx⟩
  · exact ⟨none, 0, 0, fun _ => 0, h0.1, fun h => by omega⟩
  simp only [if_true] at hmm
  by_cases h0 : len = 0
  · subst h0; exact ⟨some a, 0, cap, fun _ => 0, rfl, fun h => by omega⟩
  have each : ∀ i, i < m → ∃ q : UInt8, w.cell? (a.add i) = some (.int .u8 (q.toNat : Int)) := by
    intro i hi
    obtain ⟨cs', h1, h2⟩ := hx i hi
    rw [cells5c] at h1
    obtain ⟨_, hlen, hcell⟩ := World.cells?_some h1
    obtain ⟨v0, rfl⟩ := one_of hlen
    obtain ⟨p, e0, _, hwf⟩ := DataW.trod_int Try.underlying5 h2
    simp at e0
    subst e0
    obtain ⟨q, rfl⟩ := u8_of hwf
    have c0 := hcell 0 (by omega)
    rw [add_add] at c0
    exact ⟨q, by simpa using c0⟩
  obtain ⟨q, hq⟩ := choose_lt each
  obtain ⟨b, o, spot⟩ := a
  have hspot : spot = none := by simpa [Addr.add] using World.cell?_spot (hq 0 (by omega))
  subst hspot
  refine ⟨some ⟨b, o, none⟩, len, cap, q, rfl, fun _ => ⟨b, o, rfl, fun j hj => ?_⟩⟩
  have c0 := hq j (by omega)
  rw [add_plain] at c0
  exact c0
structure ChgV where
  c : Int
  p : Option Addr
  n : Nat
  k : Nat
  B : Nat → UInt8
instance : Inhabited ChgV := ⟨⟨0, none, 0, 0, fun _ => 0⟩⟩

set_option maxRecDepth 100000 in
theorem open_changes {H : Type} {enc : TypeId × Value → H} {w : World} {fuel : Nat} {cs : List Value} {x : DataW H × List MemPlace} (h : DataW.trod enc Try.prog w 0 (fun _ => true) true fuel 35 cs = some x) :
    ∃ (p : Option Addr) (len cap : Nat) (q : Nat → ChgV), cs = [.slice p len cap] ∧ ChA w p len (fun i => (q i).c) (fun i => (q i).p) (fun i => (q i).n) (fun i => (q i).k) (fun i => (q i).B) := by
  rcases open_slice Try.underlying35 h with h0 | ⟨a, len, cap, m, n, D, Pl, rfl, hb, hl, hm, hmm, rfl, hx⟩
  · exact ⟨none, 0, 0, default, h0.1, fun h => by omega⟩
  simp only [if_true] at hmm
  by_cases h0 : len = 0
  · subst h0; exact ⟨some a, 0, cap, default, rfl, fun h => by omega⟩
  have each : ∀ i, i < m → ∃ q : ChgV, w.cell? (a.add (i * 2)) = some (.int .i64 q.c) ∧ w.cell? (a.add (i * 2 + 1)) = some (.slice q.p q.n q.k) ∧ ByA w q.p q.n q.B := by
    intro i hi
    obtain ⟨cs', h1, h2⟩ := hx i hi
    rw [cells45] at h1
    obtain ⟨_, hlen, hcell⟩ := World.cells?_some h1
    obtain ⟨xs, k, hk, hxy, _, hxl, hf⟩ := DataW.trod_struct Try.underlying45 h2
    obtain ⟨y0, y1, rfl⟩ := two_of (show xs.length = 2 from hxl)
    obtain ⟨v0, v1, rfl⟩ := two_of hlen
    have g0 := hf 0 _ rfl
    have g1 := hf 1 _ rfl
    simp [cells3c, cells43c] at g0 g1
    obtain ⟨p, e0, _, _⟩ := DataW.trod_int Try.underlying3 g0
    obtain ⟨pb, nb, cb, B, e1, hB⟩ := open_bytes g1
    simp at e0 e1
    subst e0 e1
    have c0 := hcell 0 (by omega)
    have c1 := hcell 1 (by omega)
    rw [add_add] at c0 c1
    exact ⟨⟨p, pb, nb, cb, B⟩, by simpa using c0, by simpa using c1, hB⟩
  obtain ⟨q, hq⟩ := choose_lt each
  obtain ⟨b, o, spot⟩ := a
  have hspot : spot = none := by simpa [Addr.add] using World.cell?_spot (hq 0 (by omega)).1
  subst hspot
  refine ⟨some ⟨b, o, none⟩, len, cap, q, rfl, fun _ => ⟨b, o, rfl, fun i hi => ?_⟩⟩
  obtain ⟨c0, c1, c2⟩ := hq i (by omega)
  rw [add_plain] at c0 c1
  exact ⟨c0, by rw [Nat.add_assoc]; exact c1, c2⟩

set_option maxRecDepth 100000 in
theorem open_choices {H : Type} {enc : TypeId × Value → H} {w : World} {fuel : Nat} {cs : List Value} {x : DataW H × List MemPlace} (h : DataW.trod enc Try.prog w 0 (fun _ => true) true fuel 73 cs = some x) :
    ∃ (p : Option Addr) (cap : Nat) (xs : List Int), cs = [.slice p xs.length cap] ∧ CoA w p xs := by
  rcases open_slice Try.underlying73 h with h0 | ⟨a, len, cap, m, n, D, Pl, rfl, hb, hl, hm, hmm, rfl, hx⟩
  · exact ⟨none, 0, [], h0.1, fun j x h => by simp at h⟩
  simp only [if_true] at hmm
  by_cases h0 : len = 0
  · subst h0; exact ⟨some a, cap, [], rfl, fun j x h => by simp at h⟩
  have each : ∀ i, i < m → ∃ q : Int, q ≤ 9223372036854775807 ∧ w.cell? (a.add i) = some (.int .i64 q) := by
    intro i hi
    obtain ⟨cs', h1, h2⟩ := hx i hi
    rw [cells3c] at h1
    obtain ⟨_, hlen, hcell⟩ := World.cells?_some h1
    obtain ⟨v0, rfl⟩ := one_of hlen
    obtain ⟨p, e0, _, hwf⟩ := DataW.trod_int Try.underlying3 h2
    simp at e0
    subst e0
    have c0 := hcell 0 (by omega)
    rw [add_add] at c0
    exact ⟨p, i64_le hwf, by simpa using c0⟩
  obtain ⟨q, hq⟩ := choose_lt each
  obtain ⟨b, o, spot⟩ := a
  have hspot : spot = none := by simpa [Addr.add] using World.cell?_spot (hq 0 (by omega)).2
  subst hspot
  refine ⟨some ⟨b, o, none⟩, cap, (List.range len).map q, by simp, fun j x hj => ?_⟩
  rw [List.getElem?_map] at hj
  by_cases hl : j < len
  · rw [List.getElem?_range hl] at hj
    simp at hj
    subst hj
    obtain ⟨h1, c0⟩ := hq j (by omega)
    rw [add_plain] at c0
    exact ⟨h1, b, o, rfl, c0⟩
  · rw [List.getElem?_eq_none (by simp; omega)] at hj
    simp at hj
structure CraV where
  a : Int
  p : Option Addr
  k : Nat
  xs : List Int
instance : Inhabited CraV := ⟨⟨0, none, 0, []⟩⟩

set_option maxRecDepth 100000 in
theorem open_crashes {H : Type} {enc : TypeId × Value → H} {w : World} {fuel : Nat} {cs : List Value} {x : DataW H × List MemPlace} (h : DataW.trod enc Try.prog w 0 (fun _ => true) true fuel 36 cs = some x) :
    ∃ (p : Option Addr) (len cap : Nat) (q : Nat → CraV), cs = [.slice p len cap] ∧ WaA w p len (fun i => (q i).a) (fun i => (q i).p) (fun i => (q i).xs) (fun i => (q i).k) := by
  rcases open_slice Try.underlying36 h with h0 | ⟨a, len, cap, m, n, D, Pl, rfl, hb, hl, hm, hmm, rfl, hx⟩
  · exact ⟨none, 0, 0, default, h0.1, fun h => by omega⟩
  simp only [if_true] at hmm
  by_cases h0 : len = 0
  · subst h0; exact ⟨some a, 0, cap, default, rfl, fun h => by omega⟩
  have each : ∀ i, i < m → ∃ q : CraV, q.a ≤ 9223372036854775807 ∧ w.cell? (a.add (i * 2)) = some (.int .i64 q.a) ∧ w.cell? (a.add (i * 2 + 1)) = some (.slice q.p q.xs.length q.k) ∧ CoA w q.p q.xs := by
    intro i hi
    obtain ⟨cs', h1, h2⟩ := hx i hi
    rw [cells75c] at h1
    obtain ⟨_, hlen, hcell⟩ := World.cells?_some h1
    obtain ⟨xs, k, hk, hxy, _, hxl, hf⟩ := DataW.trod_struct Try.underlying75 h2
    obtain ⟨y0, y1, rfl⟩ := two_of (show xs.length = 2 from hxl)
    obtain ⟨v0, v1, rfl⟩ := two_of hlen
    have g0 := hf 0 _ rfl
    have g1 := hf 1 _ rfl
    simp [cells3c, cells73c] at g0 g1
    obtain ⟨p, e0, _, hwf⟩ := DataW.trod_int Try.underlying3 g0
    obtain ⟨pb, cb, ys, e1, hB⟩ := open_choices g1
    simp at e0 e1
    subst e0 e1
    have c0 := hcell 0 (by omega)
    have c1 := hcell 1 (by omega)
    rw [add_add] at c0 c1
    exact ⟨⟨p, pb, cb, ys⟩, i64_le hwf, by simpa using c0, by simpa using c1, hB⟩
  obtain ⟨q, hq⟩ := choose_lt each
  obtain ⟨b, o, spot⟩ := a
  have hspot : spot = none := by simpa [Addr.add] using World.cell?_spot (hq 0 (by omega)).2.1
  subst hspot
  refine ⟨some ⟨b, o, none⟩, len, cap, q, rfl, fun _ => ⟨b, o, rfl, fun i hi => ?_⟩⟩
  obtain ⟨c0, c1, c2, c3⟩ := hq i (by omega)
  rw [add_plain] at c1 c2
  exact ⟨c0, c1, by rw [Nat.add_assoc]; exact c2, c3⟩

set_option maxRecDepth 100000 in
theorem journalAtomic_lifted (os : Os) (started : os.Started) (H : Type) (enc : TypeId × Value → H) :
    ReturnsInHanded {} Try.checked os 4 .any (Rows.journalAtomicSpec.pre6 enc Try.prog Try.f4 Rows.journalAtomicRow.domain false) (Rows.journalAtomicSpec.post enc Try.prog Try.f4 false true false false) := by
  refine returnsInHanded_of_change (C := Try.checked) ownF started (by kernel_rfl) Try.func4
    (ChangeSpec.witness6 (enc := enc) (C := Try.checked) false ⟨#[], #[.slice none 0 0, .int .i64 0, .slice none 0 0], []⟩ 8 (by kernel_rfl) (by kernel_rfl) (by kernel_rfl) (by kernel_rfl)) ?_
  intro W base args ds gs before hval0 hW hcnd _
  have hval : ∀ (j : Nat) t v, Try.f4.params[j]? = some t → args[j]? = some v → Value.okWide Try.prog W .any base t v := hval0
  have hW' := hW
  obtain ⟨p, q, hA0, hV, rfl, hfz, hnd⟩ := hW
  have hA : DataW.TrodAll enc Try.prog W 0 (fun _ => true) true Try.f4.params.toList args.toList ds p := hA0
  rw [Try.params4] at hA hval
  obtain ⟨v0, vs0, d0, ds0, p0, q0, hargs, rfl, rfl, h0, r0⟩ := trodAll_cons hA
  obtain ⟨v1, vs1, d1, ds1, p1, q1, rfl, rfl, rfl, h1, r1⟩ := trodAll_cons r0
  obtain ⟨v2, vs2, d2, ds2, p2, q2, rfl, rfl, rfl, h2, r2⟩ := trodAll_cons r1
  obtain ⟨rfl, rfl, rfl⟩ := trodAll_nil r2
  obtain rfl : args = #[v0, v1, v2] := by cases args; simp_all
  obtain ⟨rfl, rfl⟩ := trodVars_none hV
  obtain ⟨a0, len0, cap0, rfl⟩ := okWide_slice Try.underlying35 (hval 0 35 v0 rfl rfl)
  obtain ⟨a1, rfl, rfl, rfl, w1⟩ := open_int Try.underlying3 (hval 1 3 v1 rfl rfl) h1
  obtain ⟨a2, len2, cap2, rfl⟩ := okWide_slice Try.underlying36 (hval 2 36 v2 rfl rfl)
  simp only [List.append_nil, List.nil_append] at hW'
  have hlt0 : ∀ x ∈ p0, x.block < W.heap.size := fun x hx => hW'.lt x (by simp [hx])
  have h0k : DataW.Trod enc Try.prog W 0 (fun _ => true) true 35 (.slice a0 len0 cap0) d0 p0 := h0
  have hargs0 : ∀ (W' : World), Below W.heap.size W W' → DataW.Trod enc Try.prog W' 0 (fun b => decide (b < W.heap.size)) true 35 (.slice a0 len0 cap0) d0 p0 :=
    fun W' hn => Below.trod laidOutF (by kernel_rfl) (of_decide_eq_true (by kernel_rfl)) h0k hn hlt0
  have hlt2 : ∀ x ∈ p2, x.block < W.heap.size := fun x hx => hW'.lt x (by simp [hx])
  have h2k : DataW.Trod enc Try.prog W 0 (fun _ => true) true 36 (.slice a2 len2 cap2) d2 p2 := h2
  have hargs2 : ∀ (W' : World), Below W.heap.size W W' → DataW.Trod enc Try.prog W' 0 (fun b => decide (b < W.heap.size)) true 36 (.slice a2 len2 cap2) d2 p2 :=
    fun W' hn => Below.trod laidOutF (by kernel_rfl) (of_decide_eq_true (by kernel_rfl)) h2k hn hlt2
  clear hA0 hval0
  have hR0 : ∃ q : Nat → ChgV, ChA W a0 len0 (fun i => (q i).c) (fun i => (q i).p) (fun i => (q i).n) (fun i => (q i).k) (fun i => (q i).B) := by
    obtain ⟨fuel, hf⟩ := h0
    obtain ⟨p', len', cap', q, hcs, hq⟩ := open_changes hf
    simp [Value.cells] at hcs
    obtain ⟨rfl, rfl, rfl⟩ := hcs
    exact ⟨q, hq⟩
  obtain ⟨q, hra⟩ := hR0
  have hR2 : ∃ q : Nat → CraV, WaA W a2 len2 (fun i => (q i).a) (fun i => (q i).p) (fun i => (q i).xs) (fun i => (q i).k) := by
    obtain ⟨fuel, hf⟩ := h2
    obtain ⟨p', len', cap', q, hcs, hq⟩ := open_crashes hf
    simp [Value.cells] at hcs
    obtain ⟨rfl, rfl, rfl⟩ := hcs
    exact ⟨q, hq⟩
  obtain ⟨z, hrb⟩ := hR2
  refine (atomic_walk W a0 len0 cap0 a1 (i64_le w1) _ _ _ _ _ hra a2 len2 cap2 _ _ _ _ hrb).mono fun e W' ⟨he, bel⟩ => ?_
  subst he
  have hfin : DataW.TrodAll enc Try.prog W' 0 (fun b => decide (b < W.heap.size)) true [35, 3, 36] [.slice a0 len0 cap0, .int .i64 a1, .slice a2 len2 cap2] [d0, .lit (.int .i64 a1), d2] (p0 ++ p2) := by
    simpa using (trodAll_cons_mk (hargs0 W' bel) (trodAll_cons_mk (shut_int Try.underlying3 w1) (trodAll_cons_mk (hargs2 W' bel) trodAll_mk0)))
  exact ⟨_, rfl, _, _, _, [], _, [], hW', trodAll_mk1 (shut_bool Try.underlying4 _), hfin, rfl, bel.frame _, fun h => by cases h⟩

theorem journalAtomic_holds : Rows.JournalAtomicSaid :=
  OpenClaim.holds_of_wide 4 Try.f4 rfl rfl rfl rfl rfl rfl rfl ⟨rfl, rfl, rfl, rfl, rfl⟩ rfl rfl rfl rfl rfl (by kernel_rfl) Try.func4 (by kernel_rfl)
    (of_decide_eq_true (by kernel_rfl)) (by unfold Func.isWrapper; first | (rw [if_pos (by decide +kernel)]; kernel_rfl) | (rw [if_neg (by decide +kernel)]; exact ⟨rfl, rfl⟩))
    (fun os started H enc _ => journalAtomic_lifted os started H enc)
#print axioms journalAtomic_holds
end Go.Proofs.Ytfcgjedanhmpiaa
