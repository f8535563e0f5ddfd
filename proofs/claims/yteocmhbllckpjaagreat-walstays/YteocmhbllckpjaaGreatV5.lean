/- slices.IndexFunc and slices.DeleteFunc over a disk's changes. -/
import Derived.Test.YteocmhbllckpjaaGreatV4
namespace Go.Proofs.YteocmhbllckpjaaGreat
open Go.ChangeShapes Go.WideShapes Go.ChangeAt Go.RowKit
set_option linter.unusedVariables false

/-- Where the first one is, if there is one. -/
def FirstN (nm : ByteArray) (chs : List Ch) (x : Int) : Prop :=
  (x = -1 ∧ ∀ (j : Nat) (c : Ch), chs[j]? = some c → isN nm c = false) ∨ ∃ i : Nat, x = (i : Int) ∧ (∃ c, chs[i]? = some c ∧ isN nm c = true) ∧ ∀ (j : Nat) (c : Ch), j < i → chs[j]? = some c → isN nm c = false

set_option maxHeartbeats 2000000 in
set_option maxRecDepth 10000 in
theorem indexF (w : World) (base : Nat) (cv : Value) (chs : List Ch) (nm : ByteArray) (Bn : Nat) (h : w.ownsRow base 112 67 cv chs.length (chcells chs)) (h64 : ∀ c ∈ chs, c.data.length = 64) (hn : w.cell? ⟨Bn, 0, none⟩ = some (.string nm)) (hlen : chs.length ≤ 1000000000) :
    Calls Tryz.prog 160 #[cv, .func (.func 148) #[] #[.pointer (some ⟨Bn, 0, none⟩)]] w fun e w' => (∃ x, e = .returned (.int .i64 x) ∧ FirstN nm chs x) ∧ w.grownBy w' none := by
  obtain ⟨a, cap, rfl⟩ := ownsRow_form h
  have H64 := hide h64
  have HH := hide h
  have HN := hide hn
  clear h64 h hn
  go_enter Tryz.func160, Tryz.ntmps160
  go_wp2
  go_loopw [8] (fun iv wr => ∃ j : Nat, j ≤ chs.length ∧ iv = .int .i64 (j : Int) ∧ w.grownBy wr none ∧ ∀ (i : Nat) (c : Ch), i < j → chs[i]? = some c → isN nm c = false) (fun iv _ => chs.length - (intOf iv).toNat)
  case atStart => exact ⟨0, Nat.zero_le _, rfl, ⟨rfl, rfl, rfl, Nat.le_refl _, fun _ _ _ => rfl⟩, fun i c hi => by omega⟩
  case round =>
    obtain ⟨j, hj, rfl, hg, hno⟩ := hrel
    have HG := hide hg
    have HNo := hide hno
    clear hg hno
    by_cases hlt : j < chs.length
    · obtain ⟨c, hc⟩ : ∃ c, chs[j]? = some c := ⟨chs[j], List.getElem?_eq_getElem hlt⟩
      have HC := hide hc
      have h64c := H64.out c (List.mem_of_getElem? hc)
      have l1 : (j : Int) < (chs.length : Int) := by omega
      have l0 : (0 : Int) ≤ (j : Int) := by omega
      have hw1 : IntKind.i64.wrap ((j : Int) + 1) = (j : Int) + 1 := by rw [IntKind.wrap_i64]; omega
      have hO := HH.out
      rcases hO.2 with ⟨hv, hz⟩ | ⟨g, cap', cur, hv, hbg, hgb, hnc, hcm, hcs, htake⟩
      · omega
      · cases hv
        have HRg := hide (chs_range (own_none HH.out HG.out) H64.out hc)
        have HK := hide (keep1_any wr Bn nm c h64c (HG.out.cell HN.out (by simp)))
        have H6 := hide h64c
        clear hO hgb hcs htake hcm hc h64c
        cases hb : isN nm c with
        | true =>
          go_wp2_with (first
            | (refine wp_loadC H6.out HRg.out _ (by rfl) (by rfl) (by rfl) ?_)
            | (go_at_call 148; refine Calls.mono HK.out ?_; rintro e w2 ⟨rfl, hg2⟩; have HG2 := hide hg2; clear hg2; rw [hb]))
          go_ret
          exact ⟨⟨_, rfl, .inr ⟨j, rfl, ⟨c, HC.out, hb⟩, HNo.out⟩⟩, grown_trans' HG.out HG2.out⟩
        | false =>
          go_wp2_with (first
            | (refine wp_loadC H6.out HRg.out _ (by rfl) (by rfl) (by rfl) ?_)
            | (go_at_call 148; refine Calls.mono HK.out ?_; rintro e w2 ⟨rfl, hg2⟩; have HG2 := hide hg2; clear hg2; rw [hb]))
          refine ⟨⟨j + 1, hlt, rfl, grown_trans' HG.out HG2.out, fun i c' hi hc' => ?_⟩, ?_⟩
          · by_cases e : i = j
            · subst e
              rw [HC.out] at hc'
              cases hc'
              exact hb
            · exact HNo.out i c' (by omega) hc'
          · simp only [intOf]; omega
    · obtain rfl : j = chs.length := by omega
      go_wp2
      go_ret
      exact ⟨⟨_, rfl, .inl ⟨rfl, fun i c hi => HNo.out i c (List.getElem?_eq_some_iff.1 hi).1 hi⟩⟩, HG.out⟩

section
variable {w : World} {base g cap n : Nat} {xs : List Value}
theorem own_setCells (h : w.ownsRow base 112 67 (.slice (some ⟨g, 0, none⟩) n cap) n xs) (o : Nat) (vs : List Value) (ho : o + vs.length ≤ n * 67) : (w.setCells g o vs).ownsRow base 112 67 (.slice (some ⟨g, 0, none⟩) n cap) n (splice xs o vs) := by
  have hx := h.1
  rcases h.2 with ⟨hv, hz⟩ | ⟨g', cap', cur, hv, hbg, hgb, hnc, hcm, hcs, htake⟩
  · cases hv
  · cases hv
    have hb := setCells_blk (w := w) (b := g) (t := 112) vs o w cur hgb (by rw [hcs]; have := Nat.mul_le_mul_right 67 hnc; omega)
    have hcl : cur.toList.length = cap * 67 := by rw [Array.length_toList]; exact hcs
    have hle := Nat.mul_le_mul_right 67 hnc
    refine ⟨by rw [length_splice _ _ _ (by omega)]; exact hx, .inr ⟨g, cap, _, rfl, hbg, hb, hnc, hcm, ?_, ?_⟩⟩
    · rw [List.size_toArray, length_splice _ _ _ (by omega), hcl]
    · rw [List.toList_toArray, splice_take _ _ _ _ ho (by omega), htake]
theorem own_cutC (h : w.ownsRow base 112 67 (.slice (some ⟨g, 0, none⟩) n cap) n xs) (i : Nat) (hi : i ≤ n) : w.ownsRow base 112 67 (.slice (some ⟨g, 0, none⟩) i cap) i (xs.take (i * 67)) := by
  have hx := h.1
  rcases h.2 with ⟨hv, hz⟩ | ⟨g', cap', cur, hv, hbg, hgb, hnc, hcm, hcs, htake⟩
  · cases hv
  · cases hv
    have hle := Nat.mul_le_mul_right 67 hi
    refine ⟨by rw [List.length_take]; omega, .inr ⟨g, cap, cur, rfl, hbg, hgb, by omega, hcm, hcs, ?_⟩⟩
    rw [← htake, List.take_take, Nat.min_eq_left hle]
theorem own_there (h : w.ownsRow base 112 67 (.slice (some ⟨g, 0, none⟩) n cap) n xs) (o k : Nat) (ho : o + k ≤ n * 67) : w.there g o k := by
  have hx := h.1
  rcases h.2 with ⟨hv, hz⟩ | ⟨g', cap', cur, hv, hbg, hgb, hnc, hcm, hcs, htake⟩
  · cases hv
  · cases hv
    intro j hj
    have hle := Nat.mul_le_mul_right 67 hnc
    have hb : Blk w g cur 112 := hgb
    refine ⟨?_, hb.frozen _⟩
    rw [hb.cell, Array.getElem?_eq_getElem (by omega)]
    rfl
end
theorem splice_chs {X : List Ch} (h64 : ∀ c ∈ X, c.data.length = 64) {i : Nat} (hi : i < X.length) (c : Ch) (hc : c.data.length = 64) : splice (chcells X) (i * 67) c.cells = chcells (X.set i c) := by
  have h1 := chcells_length (chs := X.take i) (fun c hc => h64 c (List.mem_of_mem_take hc))
  rw [List.length_take, Nat.min_eq_left (by omega)] at h1
  have h2 := chcells_length (chs := X.take (i + 1)) (fun c hc => h64 c (List.mem_of_mem_take hc))
  rw [List.length_take, Nat.min_eq_left (by omega)] at h2
  have hl := length_cells c hc
  have e2 := chcells_append (X.take (i + 1)) (X.drop (i + 1))
  rw [List.take_append_drop] at e2
  unfold splice
  rw [chcells_take h64, hl, show i * 67 + 67 = (i + 1) * 67 by omega, e2, ← h2, List.drop_left, List.set_eq_take_append_cons_drop, if_pos hi, chcells_append]
  rfl
theorem z75_eq : Tryz.zeroCells112 = (chg ⟨#[]⟩ 0 0 (List.replicate 64 0)).toArray := by kernel_rfl
theorem zeros_length (n : Nat) : (Builtin.zeroCells Tryz.zeroCells112 n).toList.length = n * 67 := by simp [Builtin.zeroCells]
theorem zeros_one (n : Nat) : ∀ v ∈ (Builtin.zeroCells Tryz.zeroCells112 n).toList, v.oneCell' = true := by
  intro v hv
  simp only [Builtin.zeroCells, Array.toList_map, List.mem_map] at hv
  obtain ⟨i, _, rfl⟩ := hv
  have hlt : i % Tryz.zeroCells112.size < Tryz.zeroCells112.size := Nat.mod_lt _ (by rw [zeros75_size]; omega)
  rw [getElem!_pos Tryz.zeroCells112 _ hlt]
  have hm : Tryz.zeroCells112[i % Tryz.zeroCells112.size] ∈ Tryz.zeroCells112 := Array.getElem_mem hlt
  refine one_chg ⟨#[]⟩ 0 0 (List.replicate 64 0) _ ?_
  have h2 := hm
  rw [Array.mem_def] at h2
  rw [show (chg ⟨#[]⟩ 0 0 (List.replicate 64 0)) = Tryz.zeroCells112.toList by rw [z75_eq]]
  exact h2
theorem clear_run (w : World) (g o n c : Nat) (hn : 0 < n) (ht : w.there g o (n * 67)) (ty : TypeId) : (Builtin.clear_ #[74] ty #[.slice (some ⟨g, o, none⟩) n c]).run Tryz.prog w = .ok (.tuple #[]) (w.setCells g o (Builtin.zeroCells Tryz.zeroCells112 n).toList) := by
  have hst := run_storeCells_cells (P := Tryz.prog) g o (Builtin.zeroCells Tryz.zeroCells112 n).toList 0 w (fun j hj => by rw [zeros_length] at hj; simpa using (ht j hj).1) (fun j hj => by rw [zeros_length] at hj; simpa using (ht j hj).2) (zeros_one n)
  simp only [Nat.add_zero] at hst
  obtain ⟨m, rfl⟩ : ∃ m, n = m + 1 := ⟨n - 1, by omega⟩
  simp [Builtin.clear_, run_underlying Tryz.underlying74, Value.cells, hst]
theorem wp_storeM {ops : Array Oper} {rest : List Oper} {o : Oper} {a : Act} {Q : Exit → Act → World → Prop} {w : World} {g k : Nat} {c : Ch} (h64 : c.data.length = 64) (ht : w.there g k 67) (x y : Operand)
    (hgd : o.guard = none) (ho : o.op = .store 112 x y) (hx : a.eval x = .pointer (some ⟨g, k, none⟩)) (hy : a.eval y = .agg c.cells.toArray)
    (h : wpList Tryz.prog ops Q rest (a.put o.dst undef) (w.setCells g k c.cells)) : wpList Tryz.prog ops Q (o :: rest) a w := by
  have hl := length_cells c h64
  refine wpList_plain hgd fun K hK => wp_store_mid 112 x y ho g k c.cells.toArray hx hy (by simpa [hl] using ht) (by rw [List.size_toArray]; exact i75 h64) ?_ (hK _ _ (by simpa using h))
  rw [Array.all_eq_true_iff_forall_mem]
  intro v hv
  exact one_chg c.name c.sector c.size c.data v (by have : v ∈ c.cells := by simpa using hv
                                                    exact this)
theorem filter_take_succ {chs : List Ch} {p : Ch → Bool} {j : Nat} {c : Ch} (h : chs[j]? = some c) : (chs.take (j + 1)).filter p = (chs.take j).filter p ++ (if p c then [c] else []) := by
  rw [List.take_add_one, h, List.filter_append]
  congr 1
  simp only [Option.toList, List.filter_cons, List.filter_nil]
theorem nmAt {w wr W2 : World} {Bn g : Nat} {nm : ByteArray} (hn : Blk w Bn #[.string nm] 9) (hne : Bn ≠ g) (hg : w.grownBy wr (some g)) {o : Obj} (hO : Only [wr.heap.size] (wr.alloc o) W2) : W2.cell? ⟨Bn, 0, none⟩ = some (.string nm) := by
  have h1 : Blk wr Bn #[.string nm] 9 := (hg.block Bn hn.lt (fun e => hne (by cases e; rfl))).trans hn
  have h2 : Blk (wr.alloc o) Bn #[.string nm] 9 := (Below.heap_alloc _ _ _ h1.lt).trans h1
  have h3 : Blk W2 Bn #[.string nm] 9 := hO.blk h2 (by have := h1.lt; simp; omega)
  exact (h3.cell 0).trans rfl
theorem own_later2 {wr W2 : World} {base g cap n : Nat} {xs : List Value} (h : wr.ownsRow base 112 67 (.slice (some ⟨g, 0, none⟩) n cap) n xs) {o : Obj} (hO : Only [wr.heap.size] (wr.alloc o) W2) : W2.ownsRow base 112 67 (.slice (some ⟨g, 0, none⟩) n cap) n xs :=
  ownsRow_only (h.alloc o) hO (fun k hk => by have := (own_lt h k hk).2; simp; omega)
theorem grown_later2 {w wr W2 w4 : World} {g : Nat} (hg : w.grownBy wr (some g)) {o : Obj} (hO : Only [wr.heap.size] (wr.alloc o) W2) (h4 : W2.grownBy w4 none) : w.grownBy w4 (some g) :=
  ⟨h4.os.trans (hO.os.trans hg.os), h4.tape.trans (hO.tape.trans hg.tape), h4.output.trans (hO.output.trans hg.output), Nat.le_trans hg.size (Nat.le_trans (by simp) (Nat.le_trans hO.size h4.size)), fun k hk hne => by
    have h1 := Nat.lt_of_lt_of_le hk hg.size
    have h2 : k < (wr.alloc o).heap.size := by simp; omega
    rw [h4.block k (Nat.lt_of_lt_of_le h2 hO.size) (by simp), hO.block k h2 (by simp; omega), Below.heap_alloc _ _ _ h1, hg.block k hk hne]⟩
/-- The changes of the other files. -/
def others (nm : ByteArray) (chs : List Ch) : List Ch := chs.filter fun c => !isN nm c

set_option maxHeartbeats 4000000 in
set_option maxRecDepth 10000 in
theorem deleteF (w : World) (base : Nat) (cv : Value) (chs : List Ch) (nm : ByteArray) (Bn : Nat) (h : w.ownsRow base 112 67 cv chs.length (chcells chs)) (h64 : ∀ c ∈ chs, c.data.length = 64) (hn : Blk w Bn #[.string nm] 9) (hlen : chs.length ≤ 1000000000) :
    Calls Tryz.prog 147 #[cv, .func (.func 148) #[] #[.pointer (some ⟨Bn, 0, none⟩)]] w fun e w' => ∃ v', e = .returned v' ∧ w'.ownsRow base 112 67 v' (others nm chs).length (chcells (others nm chs)) ∧ (∀ g, v'.ownBlock = some g → cv.ownBlock = some g) ∧ w.grownBy w' cv.ownBlock := by
  obtain ⟨a, cap, rfl⟩ := ownsRow_form h
  have H64 := hide h64
  have HH := hide h
  have HN := hide hn
  have HI := hide (indexF w base _ chs nm Bn h h64 ((hn.cell 0).trans rfl) hlen)
  clear h64 h hn
  go_enter Tryz.func147, Tryz.ntmps147
  go_upto_region 2 with (first
    | (go_at_call 160; refine Calls.mono HI.out ?_; rintro e w1 ⟨⟨x, rfl, hx⟩, hg1⟩; have HG1 := hide hg1; have HX := hide hx; clear hg1 hx))
  rcases HX.out with ⟨rfl, hall⟩ | ⟨i0, rfl, ⟨c0, hc0, hn0⟩, hbef⟩
  · have hoth : others nm chs = chs := by
      unfold others
      rw [List.filter_eq_self]
      intro c hc
      obtain ⟨j, hj, rfl⟩ := List.getElem_of_mem hc
      rw [hall j _ (List.getElem?_eq_getElem hj)]
      rfl
    have HO := hide hoth
    clear hall hoth
    go_wp2
    go_ret
    refine ⟨_, rfl, ?_, fun g h => h, ?_⟩
    · rw [HO.out]; exact own_none HH.out HG1.out
    · exact ⟨HG1.out.os, HG1.out.tape, HG1.out.output, HG1.out.size, fun k hk _ => HG1.out.block k hk (by simp)⟩
  · have hi0 : i0 < chs.length := (List.getElem?_eq_some_iff.1 hc0).1
    have hO := HH.out
    rcases hO.2 with ⟨hv, hz⟩ | ⟨g, cap', cur, hv, hbg, hgb, hnc, hcm, hcs, htake⟩
    · omega
    · cases hv
      have hBg : Bn ≠ g := fun e => by
        have h1 : w.heap[g]? = some (.cells #[.string nm] 9 (0, 0)) := by rw [← e]; exact HN.out
        rw [hgb] at h1
        cases h1
      have HBg := hide hBg
      have hf0 : (chs.take (i0 + 1)).filter (fun c => !isN nm c) = chs.take i0 := by
        rw [filter_take_succ hc0, hn0]
        simp only [Bool.not_true, Bool.false_eq_true, if_false, List.append_nil]
        rw [List.filter_eq_self]
        intro c hc
        obtain ⟨j, hj, rfl⟩ := List.getElem_of_mem hc
        rw [List.length_take] at hj
        rw [List.getElem_take, hbef j _ (by omega) (List.getElem?_eq_getElem (by omega))]
        rfl
      have HF0 := hide hf0
      have hw0 : IntKind.i64.wrap ((i0 : Int) + 1) = (i0 : Int) + 1 := by rw [IntKind.wrap_i64]; omega
      have HNC := hide hnc
      have hne1 : ¬ (i0 : Int) = -1 := by omega
      clear hO hgb hcs htake hcm hbef hc0 hn0 hf0 hBg HX HI
      go_upto_region 5 with fail
      go_loopw [5, 6] (fun iv jv wr => ∃ (i j : Nat) (X : List Ch), i < j ∧ j ≤ chs.length ∧ iv = .int .i64 (i : Int) ∧ jv = .int .i64 (j : Int) ∧ X.length = chs.length ∧ (∀ c ∈ X, c.data.length = 64) ∧ wr.ownsRow base 112 67 (.slice (some ⟨g, 0, none⟩) chs.length cap) chs.length (chcells X) ∧ X.take i = (chs.take j).filter (fun c => !isN nm c) ∧ X.drop j = chs.drop j ∧ w.grownBy wr (some g)) (fun _ jv _ => chs.length - (intOf jv).toNat)
      case atStart =>
        exact ⟨i0, i0 + 1, chs, by omega, hi0, rfl, rfl, rfl, H64.out, own_none HH.out HG1.out, HF0.out.symm, rfl, ⟨HG1.out.os, HG1.out.tape, HG1.out.output, HG1.out.size, fun k hk _ => HG1.out.block k hk (by simp)⟩⟩
      case round =>
        obtain ⟨i, j, X, hij, hjn, rfl, rfl, hXl, hX64, hrow, hXi, hXj, hg⟩ := hrel
        have HRow := hide hrow
        have HX64 := hide hX64
        have HXi := hide hXi
        have HXj := hide hXj
        have HG := hide hg
        have HXl := hide hXl
        clear hrow hX64 hXi hXj hg hXl
        by_cases hlt : j < chs.length
        · obtain ⟨c, hc⟩ : ∃ c, chs[j]? = some c := ⟨chs[j], List.getElem?_eq_getElem hlt⟩
          have hXc : X[j]? = some c := by
            have h1 := congrArg (fun l => l[0]?) HXj.out
            simp only [List.getElem?_drop, Nat.add_zero] at h1
            rw [h1]; exact hc
          have H6 := hide (H64.out c (List.mem_of_getElem? hc))
          have HC := hide hc
          have HRg := hide (chs_range HRow.out HX64.out hXc)
          have HZ := hide (show (wr.alloc (.cells Tryz.zeroCells112 112)).heap[wr.heap.size]? = some (.cells Tryz.zeroCells112 112 (0, 0)) from alloc_new _ _)
          have HT := hide (own_there HRow.out (i * 67) 67 (by omega))
          have l1 : (j : Int) < (chs.length : Int) := by omega
          have l0 : (0 : Int) ≤ (j : Int) := by omega
          have l2 : (i : Int) < (chs.length : Int) := by omega
          have l3 : (0 : Int) ≤ (i : Int) := by omega
          have hw1 : IntKind.i64.wrap ((j : Int) + 1) = (j : Int) + 1 := by rw [IntKind.wrap_i64]; omega
          have hw2 : IntKind.i64.wrap ((i : Int) + 1) = (i : Int) + 1 := by rw [IntKind.wrap_i64]; omega
          clear hc hXc
          cases hb : isN nm c with
          | true =>
            go_wp2_with (first
              | (refine wp_loadC H6.out HRg.out _ (by rfl) (by rfl) (by rfl) ?_)
              | (refine wp_storeC H6.out zeros75_size HZ.out _ _ (by rfl) (by rfl) (by rfl) (by rfl) ?_; intro W2 hB2 hO2; have HB2 := hide hB2; have HO2 := hide hO2; clear hB2 hO2)
              | (refine wp_loadC H6.out HB2.out.range _ (by rfl) (by rfl) (by rfl) ?_)
              | (go_at_call 148; refine Calls.mono (keep1_any W2 Bn nm c H6.out (nmAt HN.out HBg.out HG.out HO2.out)) ?_; rintro e w4 ⟨rfl, hg4⟩; have HG4 := hide hg4; clear hg4; rw [hb]))
            go_roundw
            case rel =>
              refine ⟨_, _, _, _, _, _, _, _, _, _, _, _, _, _, _, _, _, _, _, _, _, _, _, ⟨i, j + 1, X, by omega, hlt, rfl, rfl, HXl.out, HX64.out, own_none (own_later2 HRow.out HO2.out) HG4.out, ?_, ?_, grown_later2 HG.out HO2.out HG4.out⟩, rfl⟩
              · rw [filter_take_succ HC.out, hb, HXi.out]; simp
              · have h1 := congrArg (List.drop 1) HXj.out
                rwa [List.drop_drop, List.drop_drop] at h1
            case measure => simp only [intOf]; simp; omega
          | false =>
            go_wp2_with (first
              | (refine wp_loadC H6.out HRg.out _ (by rfl) (by rfl) (by rfl) ?_)
              | (refine wp_storeC H6.out zeros75_size HZ.out _ _ (by rfl) (by rfl) (by rfl) (by rfl) ?_; intro W2 hB2 hO2; have HB2 := hide hB2; have HO2 := hide hO2; clear hB2 hO2)
              | (refine wp_loadC H6.out HB2.out.range _ (by rfl) (by rfl) (by rfl) ?_)
              | (go_at_call 148; refine Calls.mono (keep1_any W2 Bn nm c H6.out (nmAt HN.out HBg.out HG.out HO2.out)) ?_; rintro e w4 ⟨rfl, hg4⟩; have HG4 := hide hg4; have HB4 := hide (show Blk w4 wr.heap.size c.cells.toArray 112 from (hg4.block _ HB2.out.lt (by simp)).trans HB2.out); have HR4 := hide (own_none (own_later2 HRow.out HO2.out) hg4); have HT4 := hide (own_there HR4.out (i * 67) 67 (by omega)); clear hg4; rw [hb])
              | (refine wp_loadC H6.out HB4.out.range _ (by rfl) (by rfl) (by rfl) ?_)
              | (refine wp_storeM H6.out HT4.out _ _ (by rfl) (by rfl) (by rfl) (by rfl) ?_))
            go_roundw
            case rel =>
              have hiX : i < X.length := by rw [HXl.out]; omega
              have hsp := splice_chs HX64.out hiX c H6.out
              have ho := own_setCells HR4.out (i * 67) c.cells (by rw [length_cells c H6.out]; omega)
              rw [hsp] at ho
              have hset : X.set i c = X.take i ++ c :: X.drop (i + 1) := by rw [List.set_eq_take_append_cons_drop, if_pos hiX]
              have hti : (X.take i).length = i := by rw [List.length_take]; omega
              have hO5 := setCells_only g c.cells (i * 67) w4
              have hg5 := grown_later2 HG.out HO2.out HG4.out
              refine ⟨_, _, _, _, _, _, _, _, _, _, _, _, _, _, _, _, _, _, _, _, _, _, _, ⟨i + 1, j + 1, X.set i c, by omega, hlt, rfl, rfl, by rw [List.length_set]; exact HXl.out, fun d hd => ?_, ho, ?_, ?_, ?_⟩, rfl⟩
              · rcases List.mem_or_eq_of_mem_set hd with h | h
                · exact HX64.out d h
                · rw [h]; exact H6.out
              · rw [filter_take_succ HC.out, hb, ← HXi.out, hset, List.take_append, hti, List.take_of_length_le (by omega), show i + 1 - i = 1 by omega]
                simp
              · rw [List.drop_set_of_lt (by omega)]
                have h1 := congrArg (List.drop 1) HXj.out
                rwa [List.drop_drop, List.drop_drop] at h1
              · exact ⟨hO5.os.trans hg5.os, hO5.tape.trans hg5.tape, hO5.output.trans hg5.output, Nat.le_trans hg5.size hO5.size, fun k hk hne => (hO5.block k (Nat.lt_of_lt_of_le hk hg5.size) (by simp; intro e; exact hne (by rw [e]))).trans (hg5.block k hk hne)⟩
            case measure => simp only [intOf]; simp; omega
        · obtain rfl : j = chs.length := by omega
          have l2 : (i : Int) ≤ (chs.length : Int) := by omega
          have l3 : (0 : Int) ≤ (i : Int) := by omega
          have l4 : (i : Int) ≤ (cap : Int) := by omega
          have l5 : (chs.length : Int) ≤ (cap : Int) := by omega
          have hcl := fun ty => clear_run wr g (i * 67) (chs.length - i) (cap - i) (by omega) (own_there HRow.out (i * 67) ((chs.length - i) * 67) (by omega)) ty
          go_wp2
          go_ret
          have hzl := zeros_length (chs.length - i)
          have ho := own_cutC (own_setCells HRow.out (i * 67) (Builtin.zeroCells Tryz.zeroCells112 (chs.length - i)).toList (by omega)) i (by omega)
          have hxl := chcells_length HX64.out
          rw [HXl.out] at hxl
          have hO5 := setCells_only g (Builtin.zeroCells Tryz.zeroCells112 (chs.length - i)).toList (i * 67) wr
          have hoth : X.take i = others nm chs := by rw [HXi.out, List.take_of_length_le (Nat.le_refl _)]; rfl
          have hol : (others nm chs).length = i := by rw [← hoth, List.length_take, HXl.out]; omega
          have hcs : (splice (chcells X) (i * 67) (Builtin.zeroCells Tryz.zeroCells112 (chs.length - i)).toList).take (i * 67) = chcells (others nm chs) := by
            unfold splice
            rw [List.take_append_of_le_length (by rw [List.length_take]; omega), List.take_take, Nat.min_self, chcells_take HX64.out, hoth]
          rw [hcs] at ho
          refine ⟨_, rfl, by rw [hol]; exact ho, fun k hk => hk, ?_⟩
          exact ⟨hO5.os.trans HG.out.os, hO5.tape.trans HG.out.tape, hO5.output.trans HG.out.output, Nat.le_trans HG.out.size hO5.size, fun k hk hne => (hO5.block k (Nat.lt_of_lt_of_le hk HG.out.size) (by simp; intro e; exact hne (by rw [e]; rfl))).trans (HG.out.block k hk hne)⟩
end Go.Proofs.YteocmhbllckpjaaGreat
