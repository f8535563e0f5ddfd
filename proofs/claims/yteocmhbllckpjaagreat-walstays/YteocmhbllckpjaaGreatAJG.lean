/- Pages that are to be changed, in memory; whether they may. -/
import Derived.Test.YteocmhbllckpjaaGreatAJE
namespace Go.Proofs.YteocmhbllckpjaaGreat
open Go.ChangeShapes Go.WideShapes Go.ChangeAt Go.RowKit
open Go.ChangeMaps (setBlock)
set_option linter.unusedVariables false

/-- A page with its number, as cells. -/
def pcl (n : Int) (l : List UInt8) : List Value := .int .i64 n :: bcs l
theorem pcl_length (n : Int) {l : List UInt8} (h : l.length = 256) : (pcl n l).length = 257 := by simp [pcl, length_bcs, h]
theorem pcl_one (n : Int) (l : List UInt8) : ∀ v ∈ pcl n l, v.oneCell' = true := by
  intro v hv
  rcases List.mem_cons.1 hv with rfl | hv
  · rfl
  · exact one_bcs l v hv
theorem info67 : (Tryz.prog.info? 72).map (·.size) = some 257 := by kernel_rfl
theorem u67 : ∃ d, Tryz.prog.underlying 72 = some d ∧ d.isRow = true := ⟨_, Tryz.underlying72, rfl⟩
/-- Pages in memory. -/
def PgA (w : World) (p : Option Addr) (n : Nat) (N : Nat → Int) (L : Nat → List UInt8) : Prop := 0 < n → ∃ g, ∃ cur : Array Value, p = some ⟨g, 0, none⟩ ∧ Blk w g cur 72 ∧ ∀ k, k < n → (L k).length = 256 ∧ w.rangeAt g (k * 257) (pcl (N k) (L k))
theorem range_blk {w w' : World} {g o : Nat} {cs : List Value} {cur : Array Value} {t : TypeId} (h : w.rangeAt g o cs) (hb : Blk w g cur t) (hb' : Blk w' g cur t) : w'.rangeAt g o cs := fun j v hv => by
  have := h j v hv
  rw [hb.cell] at this
  rw [hb'.cell]; exact this
theorem PgA.moved {w w' : World} {base b : Nat} {D D' : DS} {who who' : Nat → Nat} {p : Option Addr} {n : Nat} {N : Nat → Int} {L : Nat → List UInt8} (h : PgA w p n N L) (R : Rep w base b D who) (hm : RM w D w' base b D' who') : PgA w' p n N L := fun h0 => by
  obtain ⟨g, cur, e, hb, hc⟩ := h h0
  have hb' := hm.blk R hb (by unfold OkT; decide)
  exact ⟨g, cur, e, hb', fun k hk => ⟨(hc k hk).1, range_blk (hc k hk).2 hb hb'⟩⟩
theorem PgA.grown {w w' : World} {p : Option Addr} {n : Nat} {N : Nat → Int} {L : Nat → List UInt8} (h : PgA w p n N L) (hg : w.grownBy w' none) : PgA w' p n N L := fun h0 => by
  obtain ⟨g, cur, e, hb, hc⟩ := h h0
  exact ⟨g, cur, e, hb.grown hg, fun k hk => ⟨(hc k hk).1, range_blk (hc k hk).2 hb (hb.grown hg)⟩⟩
theorem wp_load67 {ops : Array Oper} {rest : List Oper} {o : Oper} {a : Act} {Q : Exit → Act → World → Prop} {w : World} {g k : Nat} {n : Int} {l : List UInt8} (h : l.length = 256) (hg : w.rangeAt g k (pcl n l)) (x : Operand)
    (hgd : o.guard = none) (ho : o.op = .load 72 x) (hx : a.eval x = .pointer (some ⟨g, k, none⟩)) (hk : wpList Tryz.prog ops Q rest (a.put o.dst (.agg (pcl n l).toArray)) w) : wpList Tryz.prog ops Q (o :: rest) a w := by
  obtain ⟨d, hd, hr⟩ := u67
  exact wpList_load_mid hgd 72 x ho g k hx (pcl n l) d hg hd hr (by rw [pcl_length n h]; exact info67) hk
theorem size67 {n : Int} {l : List UInt8} (h : l.length = 256) : (Tryz.prog.info? 72).map (·.size) = some (pcl n l).toArray.size := by rw [List.size_toArray, pcl_length n h]; exact info67
theorem pcl_all (n : Int) (l : List UInt8) : (pcl n l).toArray.all (·.oneCell') = true := all_oneCell_toArray (pcl_one n l)
theorem new67 (V : World) : ∃ z : Array Value, z.size = 257 ∧ Blk (V.alloc (.cells Tryz.zeroCells72 72)) V.heap.size z 72 := ⟨Tryz.zeroCells72, by kernel_rfl, alloc_new _ _⟩
/-- The page ahead. -/
def lastN (N : Nat → Int) : Nat → Int
  | 0 => 0
  | k + 1 => N k
/-- How many are added. -/
def addN (N : Nat → Int) (old : Int) : Nat → Nat
  | 0 => 0
  | k + 1 => addN N old k + if old < N k then 1 else 0
theorem addN_le (N : Nat → Int) (old : Int) : ∀ k, addN N old k ≤ k
  | 0 => Nat.le_refl _
  | k + 1 => by have := addN_le N old k; simp only [addN]; split <;> omega
def MayF (old count : Int) (n : Nat) (N : Nat → Int) : Prop := (0 ≤ count ∧ count ≤ 4096) ∧ (∀ j, j < n → lastN N j < N j ∧ N j ≤ count) ∧ (addN N old n : Int) = max (count - old) 0

noncomputable def mayB (old count : Int) (n : Nat) (N : Nat → Int) : Bool := @decide (MayF old count n N) (Classical.propDecidable _)
theorem mayB_iff {old count : Int} {n : Nat} {N : Nat → Int} : mayB old count n N = true ↔ MayF old count n N := by unfold mayB; exact @decide_eq_true_iff _ (Classical.propDecidable _)
theorem mayB_not {old count : Int} {n : Nat} {N : Nat → Int} (h : ¬ MayF old count n N) : mayB old count n N = false := by
  cases hb : mayB old count n N with
  | false => rfl
  | true => exact absurd (mayB_iff.1 hb) h
theorem mayB_end {old count : Int} {n : Nat} {N : Nat → Int} (h0 : 0 ≤ count ∧ count ≤ 4096) (h1 : ∀ j, j < n → lastN N j < N j ∧ N j ≤ count) : mayB old count n N = decide ((addN N old n : Int) = max (count - old) 0) := by
  by_cases h : (addN N old n : Int) = max (count - old) 0
  · rw [mayB_iff.2 ⟨h0, h1, h⟩, decide_eq_true h]
  · rw [mayB_not (fun hm => h hm.2.2), decide_eq_false h]
theorem grown_refl (w : World) : w.grownBy w none := ⟨rfl, rfl, rfl, Nat.le_refl _, fun _ _ _ => rfl⟩
set_option maxHeartbeats 2000000 in
theorem mayFollow_j (w : World) (old count : Int) (ho : 0 ≤ old ∧ old ≤ 10000) (p : Option Addr) (n cap : Nat) (N : Nat → Int) (L : Nat → List UInt8) (hp : PgA w p n N L) (hn : n ≤ 10000) :
    Calls Tryz.prog 46 #[.int .i64 old, .int .i64 count, .slice p n cap] w fun e w' => e = .returned (.bool (mayB old count n N)) ∧ w.grownBy w' none := by
  have HP := hideJ hp
  have HO := hideJ ho
  have HN := hideJ hn
  clear hp ho hn
  by_cases c0 : count < 0
  · go_enter Tryz.func46, Tryz.ntmps46
    go_wp2
    go_ret
    exact ⟨by rw [mayB_not (fun h => by have := h.1; omega)]; rfl, grown_refl _⟩
  by_cases c1 : 4096 < count
  · go_enter Tryz.func46, Tryz.ntmps46
    go_wp2
    go_ret
    exact ⟨by rw [mayB_not (fun h => by have := h.1; omega)]; rfl, grown_refl _⟩
  go_enter Tryz.func46, Tryz.ntmps46
  go_wp2
  go_loopw [7, 8, 19] (fun lv av iv wr => ∃ j : Nat, j ≤ n ∧ iv = .int .i64 (j : Int) ∧ lv = .int .i64 (lastN N j) ∧ av = .int .i64 (addN N old j : Int) ∧ w.grownBy wr none ∧ ∀ i, i < j → lastN N i < N i ∧ N i ≤ count) (fun _ _ iv _ => n - (intOf iv).toNat)
  case atStart => exact ⟨0, Nat.zero_le _, rfl, rfl, rfl, grown_refl _, fun i hi => by omega⟩
  case round =>
    obtain ⟨j, hj, rfl, rfl, rfl, hg, hno⟩ := hrel
    have HG := hideJ hg
    have HNo := hideJ hno
    clear hg hno
    by_cases hlt : j < n
    · obtain ⟨g, cur, rfl, hb, hc⟩ := (HP.out.grown HG.out) (by omega)
      have HRg := hideJ (hc j hlt)
      obtain ⟨z, hz, hZ⟩ := new67 wr
      have HZ := hideJ hZ
      have HZs := hideJ hz
      have HI := hideJ (size67 (n := N j) (hc j hlt).1)
      have HSz : Hid ((pcl (N j) (L j)).toArray.size = z.size) := by show _ = _; rw [List.size_toArray, pcl_length _ (hc j hlt).1, hz]
      have HA := hideJ (pcl_all (N j) (L j))
      have l1 : (j : Int) < (n : Int) := by omega
      have l0 : (0 : Int) ≤ (j : Int) := by omega
      have hw1 : IntKind.i64.wrap ((j : Int) + 1) = (j : Int) + 1 := by have := HN.out; rw [IntKind.wrap_i64]; omega
      have hw2 : IntKind.i64.wrap ((addN N old j : Int) + 1) = (addN N old j : Int) + 1 := by have := HN.out; have := addN_le N old j; rw [IntKind.wrap_i64]; omega
      have HK := hideJ hlt
      clear hb hc hZ hz
      by_cases e1 : N j ≤ lastN N j
      · go_wp2_with (first
          | ((with_reducible refine at67L ?_); refine wp_load67 HRg.out.1 HRg.out.2 _ (by rfl) (by rfl) (by rfl) ?_)
          | ((with_reducible refine at67S ?_); refine wp_storeB (c := (pcl (N j) (L j)).toArray) HI.out HSz.out HA.out HZ.out _ _ (by rfl) (by rfl) (by rfl) (by rfl) ?_; intro W5 hb5 ho5; have HG5 := hideJ (grown_only (grown_trans' HG.out (World.grownBy_alloc _ _ _)) ho5 HG.out.size); have cN := (Blk.cell hb5 0).trans (show _ = some (Value.int .i64 (N j)) from rfl); clear hb5 ho5))
        go_ret
        exact ⟨by rw [mayB_not (fun h => by have := (h.2.1 j HK.out).1; omega)]; rfl, HG5.out⟩
      by_cases e2 : count < N j
      · go_wp2_with (first
          | ((with_reducible refine at67L ?_); refine wp_load67 HRg.out.1 HRg.out.2 _ (by rfl) (by rfl) (by rfl) ?_)
          | ((with_reducible refine at67S ?_); refine wp_storeB (c := (pcl (N j) (L j)).toArray) HI.out HSz.out HA.out HZ.out _ _ (by rfl) (by rfl) (by rfl) (by rfl) ?_; intro W5 hb5 ho5; have HG5 := hideJ (grown_only (grown_trans' HG.out (World.grownBy_alloc _ _ _)) ho5 HG.out.size); have cN := (Blk.cell hb5 0).trans (show _ = some (Value.int .i64 (N j)) from rfl); clear hb5 ho5))
        go_ret
        exact ⟨by rw [mayB_not (fun h => by have := (h.2.1 j HK.out).2; omega)]; rfl, HG5.out⟩
      have HNx : Hid (∀ i, i < j + 1 → lastN N i < N i ∧ N i ≤ count) := fun i hi => by
        by_cases e : i = j
        · subst e; exact ⟨by omega, by omega⟩
        · exact HNo.out i (by omega)
      by_cases e3 : old < N j
      · have HAd : Hid (addN N old (j + 1) = addN N old j + 1) := by show addN N old j + (if old < N j then 1 else 0) = _; rw [if_pos e3]
        go_wp2_with (first
          | ((with_reducible refine at67L ?_); refine wp_load67 HRg.out.1 HRg.out.2 _ (by rfl) (by rfl) (by rfl) ?_)
          | ((with_reducible refine at67S ?_); refine wp_storeB (c := (pcl (N j) (L j)).toArray) HI.out HSz.out HA.out HZ.out _ _ (by rfl) (by rfl) (by rfl) (by rfl) ?_; intro W5 hb5 ho5; have HG5 := hideJ (grown_only (grown_trans' HG.out (World.grownBy_alloc _ _ _)) ho5 HG.out.size); have cN := (Blk.cell hb5 0).trans (show _ = some (Value.int .i64 (N j)) from rfl); clear hb5 ho5))
        refine ⟨⟨j + 1, HK.out, rfl, rfl, ?_, HG5.out, HNx.out⟩, ?_⟩
        · rw [HAd.out]; rfl
        · simp only [intOf]; have := HK.out; omega
      · have HAd : Hid (addN N old (j + 1) = addN N old j) := by show addN N old j + (if old < N j then 1 else 0) = _; rw [if_neg e3]; rfl
        go_wp2_with (first
          | ((with_reducible refine at67L ?_); refine wp_load67 HRg.out.1 HRg.out.2 _ (by rfl) (by rfl) (by rfl) ?_)
          | ((with_reducible refine at67S ?_); refine wp_storeB (c := (pcl (N j) (L j)).toArray) HI.out HSz.out HA.out HZ.out _ _ (by rfl) (by rfl) (by rfl) (by rfl) ?_; intro W5 hb5 ho5; have HG5 := hideJ (grown_only (grown_trans' HG.out (World.grownBy_alloc _ _ _)) ho5 HG.out.size); have cN := (Blk.cell hb5 0).trans (show _ = some (Value.int .i64 (N j)) from rfl); clear hb5 ho5))
        refine ⟨⟨j + 1, HK.out, rfl, rfl, ?_, HG5.out, HNx.out⟩, ?_⟩
        · rw [HAd.out]
        · simp only [intOf]; have := HK.out; omega
    · obtain rfl : j = n := by omega
      have hw3 : IntKind.i64.wrap (count - old) = count - old := by have := HO.out; rw [IntKind.wrap_i64]; omega
      have HCc := hideJ (And.intro c0 c1)
      have HE := hideJ (mayB_end (old := old) (n := j) (show 0 ≤ count ∧ count ≤ 4096 by omega) HNo.out)
      have HQ : Hid (∀ m : Int, m = max (count - old) 0 → Ending.returned (Value.bool ((addN N old j : Int) == m)) = Ending.returned (Value.bool (mayB old count j N))) := fun m hm => by rw [HE.out, hm]; rfl
      go_wp2
      all_goals go_ret
      all_goals exact ⟨HQ.out _ (by omega), HG.out⟩
end Go.Proofs.YteocmhbllckpjaaGreat
