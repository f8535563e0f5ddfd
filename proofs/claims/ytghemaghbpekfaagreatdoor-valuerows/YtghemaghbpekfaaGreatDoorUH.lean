/- The walk of ValueRows without collations; rows as arguments, opened. -/
import Derived.Test.YtghemaghbpekfaaGreatDoorUG
import Derived.Test.YtghemaghbpekfaaGreatDoorCE
import Derived.Deep.Slices
import Derived.Carry
import Derived.SizedLaws
namespace Go.Proofs.YtghemaghbpekfaaGreatDoor
open Go.ChangeShapes Go.WideShapes Go.ChangeAt Go.RowKit Go.Deep
set_option linter.unusedVariables false

set_option maxHeartbeats 2000000 in
set_option maxRecDepth 10000 in
theorem vrows_n (a b : Value) (la lb : Nat) (K N : Nat → Int) (T : Nat → ByteArray) (K2 N2 : Nat → Int) (T2 : Nat → ByteArray) (hla : la * 32 ≤ 140737488355328) (hlb : lb * 32 ≤ 140737488355328) (hin : inRow la N) (p : Option Addr) (cc : Nat)
    (w : World) (hE : Env w) (ha : RowIs w a la K N T) (hb : RowIs w b lb K2 N2 T2) :
    Calls Tryz.prog 4 #[a, b, .slice p 0 cc] w fun e w' => e = .returned (.bool true) ∧ Below w.heap.size w w' := by
  obtain ⟨s, E, hpr⟩ := both_print (K := K) (T := T) hla hin
  have HPR := hide hpr
  have HRa := hide ha
  have HRb := hide hb
  have HE : Hid (∀ V, Below w.heap.size w V → Env V) := fun V hV => hE.below hV
  have HLa := hide hla
  have HLb := hide hlb
  clear hpr ha hb hE hla hlb
  go_enter Tryz.func4, Tryz.ntmps4
  go_wp2
  refine wp_loop_rounds 1 ?_
  rw [rounds_succ]
  have HB : Hid (Below w.heap.size w w) := Below.refl _ _
  have HCl : Hid (CollIs w (.slice none 0 0) 0 (fun _ => 0)) := .inl ⟨rfl, _, _, rfl⟩
  have HCp := hide (copy_is HLa.out w a HRa.out)
  go_wp2_with (first
    | (go_at_call 11; with_reducible refine Calls.mono HCp.out ?_; rintro e w2 ⟨v2, rfl, hr2, hb2⟩; have HB2 := hide (below_trans HB.out hb2); have HK2 := hide hb2; have HP2 := hide (HPR.out w2 v2 (HE.out _ (below_trans HB.out hb2)) hr2).1; clear hb2 hr2)
    | (go_at_call 10; with_reducible refine Calls.mono HP2.out ?_; rintro e w3 ⟨rfl, hb3⟩; have HB3 := hide (below_trans HB2.out hb3); have HK3 := hide (below_trans HK2.out hb3); have HP3 := hide (HPR.out w3 a (HE.out _ (below_trans HB2.out hb3)) (HRa.out.later (below_trans HB2.out hb3))).2; clear hb3)
    | (go_at_call 12; with_reducible refine Calls.mono HP3.out ?_; rintro e w4 ⟨rfl, hb4⟩; have HB4 := hide (below_trans HB3.out hb4); have HK4 := hide (below_trans HK3.out hb4); clear hb4)
    | (go_at_call 5; with_reducible refine Calls.mono (head_walk _ (HE.out _ HB4.out)) ?_; rintro e w5 ⟨rfl, hb5⟩; have HB5 := hide (below_trans HB4.out hb5); have HK5 := hide (below_trans HK4.out hb5); have HQ5 := hide (both_cmp (by have := HLa.out; omega) (by have := HLb.out; omega) w5 (HRa.out.later HB5.out) (HRb.out.later HB5.out) (HCl.out.later HK5.out)).1; clear hb5)
    | (go_at_call 13; with_reducible refine Calls.mono HQ5.out ?_; rintro e w6 ⟨rfl, hb6⟩; have HB6 := hide (below_trans HB5.out hb6); have HK6 := hide (below_trans HK5.out hb6); have HQ6 := hide (both_cmp (by have := HLa.out; omega) (by have := HLb.out; omega) w6 (HRa.out.later HB6.out) (HRb.out.later HB6.out) (HCl.out.later HK6.out)).2; clear hb6)
    | (go_at_call 14; with_reducible refine Calls.mono HQ6.out ?_; rintro e w7 ⟨rfl, hb7⟩; have HB7 := hide (below_trans HB6.out hb7); clear hb7))
  go_ret
  exact ⟨by simp, HB7.out⟩
theorem cellsK : Tryz.prog.cellsOf 22 = 1 := by kernel_rfl
theorem cells2' : Tryz.prog.cellsOf 2 = 1 := by kernel_rfl
theorem cells9' : Tryz.prog.cellsOf 9 = 1 := by kernel_rfl
theorem bytesV : Tryz.prog.bytesOf 24 = 32 := by kernel_rfl
theorem laidOutD : laidOutB Tryz.prog = true := by kernel_rfl

theorem three {α : Type} {l : List α} (h : l.length = 3) : ∃ a b c, l = [a, b, c] := by
  match l, h with
  | [a, b, c], _ => exact ⟨a, b, c, rfl⟩

set_option maxRecDepth 100000 in
theorem open_row {H : Type} {enc : TypeId × Value → H} {w : World} {fuel : Nat} {cs : List Value} {x : DataW H × List MemPlace} (h : DataW.trod enc Tryz.prog w 0 (fun _ => true) true fuel 31 cs = some x) :
    cs = [.slice none 0 0] ∨ (∃ a cap, cs = [.slice (some a) 0 cap]) ∨
    ∃ (b o len cap : Nat) (K N : Nat → Int) (T : Nat → ByteArray) (el sp : List (DataW H)), cs = [.slice (some ⟨b, o, none⟩) len cap] ∧ 0 < len ∧ x.1 = .slice el sp ∧ el.length = len ∧ RowAt w b o len K N T ∧ inRow len N := by
  rcases open_slice Tryz.underlying31 h with h0 | ⟨a, len, cap, m, n, D, Pl, rfl, hb, hl, hm, hmm, rfl, hx⟩
  · exact Or.inl h0.1
  right
  simp only [if_true] at hmm
  by_cases h0 : len = 0
  · subst h0; exact Or.inl ⟨a, cap, rfl⟩
  right
  have each : ∀ i, i < m → ∃ q : Int × Int × ByteArray, w.cell? (a.add (i * 3)) = some (.int .i64 q.1) ∧ w.cell? (a.add (i * 3 + 1)) = some (.int .i64 q.2.1) ∧ w.cell? (a.add (i * 3 + 2)) = some (.string q.2.2) ∧ (Lit.int .i64 q.2.1).wf = true := by
    intro i hi
    obtain ⟨cs', h1, h2⟩ := hx i hi
    rw [cellsV] at h1
    obtain ⟨_, hlen, hcell⟩ := World.cells?_some h1
    obtain ⟨xs, k, hk, hxy, _, hxl, hf⟩ := DataW.trod_struct Tryz.underlying24 h2
    obtain ⟨y0, y1, y2, rfl⟩ := three (show xs.length = 3 from hxl)
    obtain ⟨v0, v1, v2, rfl⟩ := three hlen
    have g0 := hf 0 _ rfl
    have g1 := hf 1 _ rfl
    have g2 := hf 2 _ rfl
    simp [cellsK, cells2', cells9'] at g0 g1 g2
    obtain ⟨p, e0, _, _⟩ := DataW.trod_int Tryz.underlying22 g0
    obtain ⟨q, e1, _, wq⟩ := DataW.trod_int Tryz.underlying2 g1
    obtain ⟨r, e2, _, _⟩ := DataW.trod_string Tryz.underlying9 g2
    simp at e0 e1 e2
    subst e0 e1 e2
    have c0 := hcell 0 (by omega)
    have c1 := hcell 1 (by omega)
    have c2 := hcell 2 (by omega)
    rw [add_add] at c0 c1 c2
    exact ⟨(p, q, r), by simpa using c0, by simpa using c1, by simpa using c2, wq⟩
  obtain ⟨q, hq⟩ := choose_lt each
  obtain ⟨b, o, spot⟩ := a
  have hspot : spot = none := by simpa [Addr.add] using World.cell?_spot (hq 0 (by omega)).1
  subst hspot
  refine ⟨b, o, len, cap, fun i => (q i).1, fun i => (q i).2.1, fun i => (q i).2.2, _, _, rfl, by omega, rfl, by simp, fun i hi => ?_, fun i hi => wf_range (hq i (by omega)).2.2.2⟩
  obtain ⟨c0, c1, c2, -⟩ := hq i (by omega)
  rw [add_plain] at c0 c1 c2
  exact ⟨c0, by rw [Nat.add_assoc]; exact c1, by rw [Nat.add_assoc]; exact c2⟩

theorem cells3' : Tryz.prog.cellsOf 3 = 1 := by kernel_rfl
theorem bytes3 : Tryz.prog.bytesOf 3 = 8 := by kernel_rfl
set_option maxRecDepth 100000 in
/-- A row of integers. -/
theorem open_ints {H : Type} {enc : TypeId × Value → H} {w : World} {fuel : Nat} {cs : List Value} {x : DataW H × List MemPlace} (h : DataW.trod enc Tryz.prog w 0 (fun _ => true) true fuel 32 cs = some x) :
    cs = [.slice none 0 0] ∨ (∃ a cap, cs = [.slice (some a) 0 cap]) ∨
    ∃ (b o len cap : Nat) (C : Nat → Int) (el sp : List (DataW H)), cs = [.slice (some ⟨b, o, none⟩) len cap] ∧ 0 < len ∧ x.1 = .slice el sp ∧ el.length = len ∧ IntAt w b o len C := by
  rcases open_slice Tryz.underlying32 h with h0 | ⟨a, len, cap, m, n, D, Pl, rfl, hb, hl, hm, hmm, rfl, hx⟩
  · exact Or.inl h0.1
  right
  simp only [if_true] at hmm
  by_cases h0 : len = 0
  · subst h0; exact Or.inl ⟨a, cap, rfl⟩
  right
  have each : ∀ i, i < m → ∃ q : Int, w.cell? (a.add i) = some (.int .i64 q) := by
    intro i hi
    obtain ⟨cs', h1, h2⟩ := hx i hi
    rw [cells3'] at h1
    obtain ⟨_, hlen, hcell⟩ := World.cells?_some h1
    obtain ⟨r, e2, _, _⟩ := DataW.trod_int Tryz.underlying3 h2
    subst e2
    have c0 := hcell 0 (by omega)
    rw [add_add] at c0
    exact ⟨r, by simpa using c0⟩
  obtain ⟨q, hq⟩ := choose_lt each
  obtain ⟨b, o, spot⟩ := a
  have hspot : spot = none := by simpa [Addr.add] using World.cell?_spot (hq 0 (by omega))
  subst hspot
  refine ⟨b, o, len, cap, q, _, _, rfl, by omega, rfl, by simp, fun i hi => ?_⟩
  have c0 := hq i (by omega)
  rwa [add_plain] at c0
end Go.Proofs.YtghemaghbpekfaaGreatDoor
