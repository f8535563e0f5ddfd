/- How two rows stand by their columns' orders. -/
import Derived.Test.YtfjmoiooonialaaDoorEA
namespace Go.Proofs.YtfjmoiooonialaaDoor
open Go.ChangeShapes Go.WideShapes Go.ChangeAt Go.RowKit
set_option linter.unusedVariables false

/-- A row of orders, as it lies in memory. -/
abbrev OrdAt (w : World) (b o len : Nat) (C : Nat → Int) (D : Nat → Bool) : Prop := ∀ i, i < len → w.cell? ⟨b, o + i * 2, none⟩ = some (.int .i64 (C i)) ∧ w.cell? ⟨b, o + i * 2 + 1, none⟩ = some (.bool (D i))
theorem OrdAt.later {w w' : World} {b o len : Nat} {C : Nat → Int} {D : Nat → Bool} (h : OrdAt w b o len C D) (hb : Below w.heap.size w w') : OrdAt w' b o len C D := fun i hi => ⟨cell_later hb (h i hi).1, cell_later hb (h i hi).2⟩
/-- Rows of any length, and lists of orders. -/
def RowP (w : World) (p : Option Addr) (len : Nat) (K N : Nat → Int) (T : Nat → ByteArray) : Prop := 0 < len → ∃ b o, p = some ⟨b, o, none⟩ ∧ RowAt w b o len K N T
def OrdP (w : World) (p : Option Addr) (len : Nat) (C : Nat → Int) (D : Nat → Bool) : Prop := 0 < len → ∃ b o, p = some ⟨b, o, none⟩ ∧ OrdAt w b o len C D
theorem RowP.later {w w' : World} {p : Option Addr} {len : Nat} {K N : Nat → Int} {T : Nat → ByteArray} (h : RowP w p len K N T) (hb : Below w.heap.size w w') : RowP w' p len K N T := fun h0 => let ⟨b, o, hp, hr⟩ := h h0; ⟨b, o, hp, hr.later hb⟩
theorem OrdP.later {w w' : World} {p : Option Addr} {len : Nat} {C : Nat → Int} {D : Nat → Bool} (h : OrdP w p len C D) (hb : Below w.heap.size w w') : OrdP w' p len C D := fun h0 => let ⟨b, o, hp, hr⟩ := h h0; ⟨b, o, hp, hr.later hb⟩
/-- The order of a place. -/
def colC (lc : Nat) (C : Nat → Int) (i : Nat) : Int := if i < lc then C i else 0
def colD (lc : Nat) (D : Nat → Bool) (i : Nat) : Bool := if i < lc then D i else false
/-- How the values of a place stand. -/
def ordF (K N : Nat → Int) (T : Nat → ByteArray) (K2 N2 : Nat → Int) (T2 : Nat → ByteArray) (lc : Nat) (C : Nat → Int) (D : Nat → Bool) (i : Nat) : Int := ordA (K i) (N i) (T i) (K2 i) (N2 i) (T2 i) (colC lc C i) (colD lc D i)
theorem ordF_in {K N : Nat → Int} {T : Nat → ByteArray} {K2 N2 : Nat → Int} {T2 : Nat → ByteArray} {lc : Nat} {C : Nat → Int} {D : Nat → Bool} {i : Nat} (h : i < lc) : ordF K N T K2 N2 T2 lc C D i = ordA (K i) (N i) (T i) (K2 i) (N2 i) (T2 i) (C i) (D i) := by
  unfold ordF colC colD
  rw [if_pos h, if_pos h]
theorem ordF_out {K N : Nat → Int} {T : Nat → ByteArray} {K2 N2 : Nat → Int} {T2 : Nat → ByteArray} {lc : Nat} {C : Nat → Int} {D : Nat → Bool} {i : Nat} (h : ¬ i < lc) : ordF K N T K2 N2 T2 lc C D i = ordA (K i) (N i) (T i) (K2 i) (N2 i) (T2 i) 0 false := by
  unfold ordF colC colD
  rw [if_neg h, if_neg h]
/-- The first that is not level. -/
def fz (f : Nat → Int) : Nat → Int
  | 0 => 0
  | n + 1 => if fz f n = 0 then f n else fz f n
def rowsR (f : Nat → Int) (la lb : Nat) : Int := if fz f (min la lb) = 0 then cmpI (la : Int) (lb : Int) else fz f (min la lb)
theorem fz_zero {f : Nat → Int} : ∀ {j : Nat}, (∀ i, i < j → f i = 0) → fz f j = 0
  | 0, _ => rfl
  | j + 1, h => by
    have h1 := fz_zero (f := f) (j := j) (fun i hi => h i (by omega))
    unfold fz
    rw [if_pos h1]
    exact h j (by omega)
theorem fz_hit {f : Nat → Int} {j : Nat} (h : ∀ i, i < j → f i = 0) (hj : f j ≠ 0) : ∀ {m : Nat}, j < m → fz f m = f j
  | 0, hm => by omega
  | m + 1, hm => by
    by_cases e : j = m
    · subst e
      unfold fz
      rw [if_pos (fz_zero h)]
    · have h1 := fz_hit h hj (m := m) (by omega)
      unfold fz
      rw [h1, if_neg hj]
theorem rowsR_hit {f : Nat → Int} {la lb j : Nat} (hj : j < min la lb) (h : ∀ i, i < j → f i = 0) (hne : f j ≠ 0) : rowsR f la lb = f j := by
  unfold rowsR
  rw [fz_hit h hne hj, if_neg hne]
theorem rowsR_end {f : Nat → Int} {la lb : Nat} (h : ∀ i, i < min la lb → f i = 0) : rowsR f la lb = cmpI (la : Int) (lb : Int) := by
  unfold rowsR
  rw [fz_zero h, if_pos rfl]

set_option maxHeartbeats 2000000 in
set_option maxRecDepth 10000 in
theorem rowcmp (pa pb pc : Option Addr) (la ca lb cb2 : Nat) (K N : Nat → Int) (T : Nat → ByteArray) (K2 N2 : Nat → Int) (T2 : Nat → ByteArray) (hla : la ≤ 140737488355328) (hlb : lb ≤ 140737488355328) (w : World) (lc cc : Nat) (C : Nat → Int) (D : Nat → Bool) (hc : OrdP w pc lc C D) (h : RowP w pa la K N T) (h2 : RowP w pb lb K2 N2 T2) :
    Calls Tryd.prog 7 #[.slice pa la ca, .slice pb lb cb2, .slice pc lc cc] w fun e w' => e = .returned (.int .i64 (rowsR (ordF K N T K2 N2 T2 lc C D) la lb)) ∧ Below w.heap.size w w' := by
  have HRp := hide h
  have HRp2 := hide h2
  have HCp := hide hc
  have HW : Hid (∀ k1 n1 t1 k2 n2 t2 c d V, Calls Tryd.prog 16 #[.agg #[.int .i64 k1, .int .i64 n1, .string t1], .agg #[.int .i64 k2, .int .i64 n2, .string t2], .agg #[.int .i64 c, .bool d]] V fun e w' => e = .returned (.int .i64 (ordA k1 n1 t1 k2 n2 t2 c d)) ∧ Below V.heap.size V w') := fun k1 n1 t1 k2 n2 t2 c d V => cmpBy_walk k1 n1 t1 k2 n2 t2 c d V
  have hmin : min (la : Int) (lb : Int) = ((min la lb : Nat) : Int) := by omega
  clear h h2 hc
  go_enter Tryd.func7, Tryd.ntmps7
  go_wp2
  go_loopw [15] (fun iv wr => ∃ j : Nat, j ≤ min la lb ∧ iv = .int .i64 (j : Int) ∧ (∀ i, i < j → ordF K N T K2 N2 T2 lc C D i = 0) ∧ Below w.heap.size w wr) (fun iv _ => min la lb - (intOf iv).toNat)
  case atStart => exact ⟨0, Nat.zero_le _, rfl, fun i hi => by omega, Below.refl _ _⟩
  case round =>
    obtain ⟨j, hj, rfl, hall, hb⟩ := hrel
    have HA := hide hall
    have HB := hide hb
    clear hall hb
    by_cases hlt : j < min la lb
    · have hja : j < la := by omega
      have hjb : j < lb := by omega
      have l1 : (j : Int) < (la : Int) := by omega
      have l2 : (j : Int) < (lb : Int) := by omega
      have l3 : (j : Int) < ((min la lb : Nat) : Int) := by omega
      have l0 : (0 : Int) ≤ (j : Int) := by omega
      have hw1 : IntKind.i64.wrap ((j : Int) + 1) = (j : Int) + 1 := by rw [IntKind.wrap_i64]; omega
      have HN : Hid (∀ (x y : Value), Below w.heap.size w (wr.alloc (.cells #[x, y] 29))) := fun x y => below_trans HB.out (new_below wr _ rfl)
      obtain ⟨b, o, rfl, hr⟩ := HRp.out (by omega)
      obtain ⟨b2, o2, rfl, hr2⟩ := HRp2.out (by omega)
      have HR := hide hr
      have HR2 := hide hr2
      clear hr hr2
      by_cases hlc : j < lc
      · obtain ⟨cb, co, rfl, hc⟩ := HCp.out (by omega)
        have HC := hide hc
        clear hc
        have l4 : (j : Int) < (lc : Int) := by omega
        obtain ⟨ce, cf⟩ := (HC.out.later (HN.out (.int .i64 0) (.bool false))) j hlc
        have HCo := hide (ordF_in (K := K) (N := N) (T := T) (K2 := K2) (N2 := N2) (T2 := T2) (C := C) (D := D) hlc)
        go_wp2_with fail
        go_name_world W hW
        have hq0 := new_cells wr _ _ hW 0 _ rfl
        have hq1 := new_cells wr _ _ hW 1 _ rfl
        have hbW := new_below wr _ hW
        have HBW := hide (below_trans HB.out hbW)
        have HBD : Hid (Below w.heap.size w W.drew) := (below_trans HB.out hbW).drew
        have hds : Below W.heap.size W W.drew := (Below.refl _ _).drew
        have HS : Hid (∀ V, Below w.heap.size w V → Below W.heap.size W V → (fun V => (V.cell? ⟨b, o + j * 3, none⟩ = some (.int .i64 (K j)) ∧ V.cell? ⟨b, o + j * 3 + 1, none⟩ = some (.int .i64 (N j)) ∧ V.cell? ⟨b, o + j * 3 + 2, none⟩ = some (.string (T j))) ∧ (V.cell? ⟨b2, o2 + j * 3, none⟩ = some (.int .i64 (K2 j)) ∧ V.cell? ⟨b2, o2 + j * 3 + 1, none⟩ = some (.int .i64 (N2 j)) ∧ V.cell? ⟨b2, o2 + j * 3 + 2, none⟩ = some (.string (T2 j))) ∧ V.cell? ⟨wr.heap.size, 0, none⟩ = some (.int .i64 (C j)) ∧ V.cell? ⟨wr.heap.size, 1, none⟩ = some (.bool (D j))) V) := fun V h1 h2 => ⟨(HR.out.later h1) j hja, (HR2.out.later h1) j hjb, cell_later h2 hq0, cell_later h2 hq1⟩
        have HDS := hide hds
        clear hW hq0 hq1 hbW hds
        obtain ⟨q, hq⟩ : ∃ q : Int, ordA (K j) (N j) (T j) (K2 j) (N2 j) (T2 j) (C j) (D j) = q := ⟨_, rfl⟩
        have HQ := hide hq
        by_cases hz : q = 0
        · subst hz
          go_region_held3 (fun V => (V.cell? ⟨b, o + j * 3, none⟩ = some (.int .i64 (K j)) ∧ V.cell? ⟨b, o + j * 3 + 1, none⟩ = some (.int .i64 (N j)) ∧ V.cell? ⟨b, o + j * 3 + 2, none⟩ = some (.string (T j))) ∧ (V.cell? ⟨b2, o2 + j * 3, none⟩ = some (.int .i64 (K2 j)) ∧ V.cell? ⟨b2, o2 + j * 3 + 1, none⟩ = some (.int .i64 (N2 j)) ∧ V.cell? ⟨b2, o2 + j * 3 + 2, none⟩ = some (.string (T2 j))) ∧ V.cell? ⟨wr.heap.size, 0, none⟩ = some (.int .i64 (C j)) ∧ V.cell? ⟨wr.heap.size, 1, none⟩ = some (.bool (D j))) (first | with_reducible exact HS.out _ HBD.out HDS.out | with_reducible exact HS.out _ HX.out HX2.out) (first
            | (go_at_call 16; with_reducible refine Calls.mono (HW.out _ _ _ _ _ _ _ _ _) ?_; rintro e w1 ⟨rfl, hb⟩; have HX := hide (below_trans HBD.out hb); have HX2 := hide (below_trans HDS.out hb); clear hb; rw [HQ.out]))
          all_goals (try go_wp2)
          all_goals
            refine ⟨⟨j + 1, hlt, rfl, fun i hi => ?_, HX.out⟩, ?_⟩
            · by_cases e : i = j
              · subst e; rw [HCo.out]; exact HQ.out
              · exact HA.out i (by omega)
            · simp only [intOf]; omega
        · have HRR := hide (rowsR_hit (f := ordF K N T K2 N2 T2 lc C D) hlt HA.out (by rw [HCo.out, hq]; exact hz))
          rw [HCo.out, hq] at HRR
          clear hq
          go_region_held3 (fun V => (V.cell? ⟨b, o + j * 3, none⟩ = some (.int .i64 (K j)) ∧ V.cell? ⟨b, o + j * 3 + 1, none⟩ = some (.int .i64 (N j)) ∧ V.cell? ⟨b, o + j * 3 + 2, none⟩ = some (.string (T j))) ∧ (V.cell? ⟨b2, o2 + j * 3, none⟩ = some (.int .i64 (K2 j)) ∧ V.cell? ⟨b2, o2 + j * 3 + 1, none⟩ = some (.int .i64 (N2 j)) ∧ V.cell? ⟨b2, o2 + j * 3 + 2, none⟩ = some (.string (T2 j))) ∧ V.cell? ⟨wr.heap.size, 0, none⟩ = some (.int .i64 (C j)) ∧ V.cell? ⟨wr.heap.size, 1, none⟩ = some (.bool (D j))) (first | with_reducible exact HS.out _ HBD.out HDS.out | with_reducible exact HS.out _ HX.out HX2.out) (first
            | (go_at_call 16; with_reducible refine Calls.mono (HW.out _ _ _ _ _ _ _ _ _) ?_; rintro e w1 ⟨rfl, hb⟩; have HX := hide (below_trans HBD.out hb); have HX2 := hide (below_trans HDS.out hb); clear hb; rw [HQ.out]))
          all_goals (try go_wp2)
          all_goals go_ret
          all_goals exact ⟨by rw [HRR.out]; rfl, HX.out⟩
      · have l4 : ¬ (j : Int) < (lc : Int) := by omega
        have HCo := hide (ordF_out (K := K) (N := N) (T := T) (K2 := K2) (N2 := N2) (T2 := T2) (C := C) (D := D) hlc)
        go_wp2_with fail
        go_name_world W hW
        have hq0 := new_cells wr _ _ hW 0 _ rfl
        have hq1 := new_cells wr _ _ hW 1 _ rfl
        have hbW := new_below wr _ hW
        have HBW := hide (below_trans HB.out hbW)
        have HBD : Hid (Below w.heap.size w W.drew) := (below_trans HB.out hbW).drew
        have hds : Below W.heap.size W W.drew := (Below.refl _ _).drew
        have HS : Hid (∀ V, Below w.heap.size w V → Below W.heap.size W V → (fun V => (V.cell? ⟨b, o + j * 3, none⟩ = some (.int .i64 (K j)) ∧ V.cell? ⟨b, o + j * 3 + 1, none⟩ = some (.int .i64 (N j)) ∧ V.cell? ⟨b, o + j * 3 + 2, none⟩ = some (.string (T j))) ∧ (V.cell? ⟨b2, o2 + j * 3, none⟩ = some (.int .i64 (K2 j)) ∧ V.cell? ⟨b2, o2 + j * 3 + 1, none⟩ = some (.int .i64 (N2 j)) ∧ V.cell? ⟨b2, o2 + j * 3 + 2, none⟩ = some (.string (T2 j))) ∧ V.cell? ⟨wr.heap.size, 0, none⟩ = some (.int .i64 0) ∧ V.cell? ⟨wr.heap.size, 1, none⟩ = some (.bool false)) V) := fun V h1 h2 => ⟨(HR.out.later h1) j hja, (HR2.out.later h1) j hjb, cell_later h2 hq0, cell_later h2 hq1⟩
        have HDS := hide hds
        clear hW hq0 hq1 hbW hds
        obtain ⟨q, hq⟩ : ∃ q : Int, ordA (K j) (N j) (T j) (K2 j) (N2 j) (T2 j) 0 false = q := ⟨_, rfl⟩
        have HQ := hide hq
        by_cases hz : q = 0
        · subst hz
          go_region_held3 (fun V => (V.cell? ⟨b, o + j * 3, none⟩ = some (.int .i64 (K j)) ∧ V.cell? ⟨b, o + j * 3 + 1, none⟩ = some (.int .i64 (N j)) ∧ V.cell? ⟨b, o + j * 3 + 2, none⟩ = some (.string (T j))) ∧ (V.cell? ⟨b2, o2 + j * 3, none⟩ = some (.int .i64 (K2 j)) ∧ V.cell? ⟨b2, o2 + j * 3 + 1, none⟩ = some (.int .i64 (N2 j)) ∧ V.cell? ⟨b2, o2 + j * 3 + 2, none⟩ = some (.string (T2 j))) ∧ V.cell? ⟨wr.heap.size, 0, none⟩ = some (.int .i64 0) ∧ V.cell? ⟨wr.heap.size, 1, none⟩ = some (.bool false)) (first | with_reducible exact HS.out _ HBD.out HDS.out | with_reducible exact HS.out _ HX.out HX2.out) (first
            | (go_at_call 16; with_reducible refine Calls.mono (HW.out _ _ _ _ _ _ _ _ _) ?_; rintro e w1 ⟨rfl, hb⟩; have HX := hide (below_trans HBD.out hb); have HX2 := hide (below_trans HDS.out hb); clear hb; rw [HQ.out]))
          all_goals (try go_wp2)
          all_goals
            refine ⟨⟨j + 1, hlt, rfl, fun i hi => ?_, HX.out⟩, ?_⟩
            · by_cases e : i = j
              · subst e; rw [HCo.out]; exact HQ.out
              · exact HA.out i (by omega)
            · simp only [intOf]; omega
        · have HRR := hide (rowsR_hit (f := ordF K N T K2 N2 T2 lc C D) hlt HA.out (by rw [HCo.out, hq]; exact hz))
          rw [HCo.out, hq] at HRR
          clear hq
          go_region_held3 (fun V => (V.cell? ⟨b, o + j * 3, none⟩ = some (.int .i64 (K j)) ∧ V.cell? ⟨b, o + j * 3 + 1, none⟩ = some (.int .i64 (N j)) ∧ V.cell? ⟨b, o + j * 3 + 2, none⟩ = some (.string (T j))) ∧ (V.cell? ⟨b2, o2 + j * 3, none⟩ = some (.int .i64 (K2 j)) ∧ V.cell? ⟨b2, o2 + j * 3 + 1, none⟩ = some (.int .i64 (N2 j)) ∧ V.cell? ⟨b2, o2 + j * 3 + 2, none⟩ = some (.string (T2 j))) ∧ V.cell? ⟨wr.heap.size, 0, none⟩ = some (.int .i64 0) ∧ V.cell? ⟨wr.heap.size, 1, none⟩ = some (.bool false)) (first | with_reducible exact HS.out _ HBD.out HDS.out | with_reducible exact HS.out _ HX.out HX2.out) (first
            | (go_at_call 16; with_reducible refine Calls.mono (HW.out _ _ _ _ _ _ _ _ _) ?_; rintro e w1 ⟨rfl, hb⟩; have HX := hide (below_trans HBD.out hb); have HX2 := hide (below_trans HDS.out hb); clear hb; rw [HQ.out]))
          all_goals (try go_wp2)
          all_goals go_ret
          all_goals exact ⟨by rw [HRR.out]; rfl, HX.out⟩
    · have l3 : ¬ (j : Int) < ((min la lb : Nat) : Int) := by omega
      obtain rfl : min la lb = j := by omega
      have HRR := hide (rowsR_end (f := ordF K N T K2 N2 T2 lc C D) (la := la) (lb := lb) HA.out)
      go_wp2_with (first
        | (go_at_call 17; with_reducible refine Calls.mono (compare_int _ _ _) ?_; rintro e w1 ⟨rfl, rfl⟩))
      go_ret
      exact ⟨by rw [HRR.out]; rfl, HB.out⟩
end Go.Proofs.YtfjmoiooonialaaDoor
