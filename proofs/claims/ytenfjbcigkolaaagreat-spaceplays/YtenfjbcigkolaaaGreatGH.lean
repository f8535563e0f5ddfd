/- Runs of cells laid one behind the other: where they have room. -/
/- A run of one cell; a page of cells. -/
import Derived.Test.YtenfjbcigkolaaaGreatGF
import Derived.Laws.OwnMore
namespace Go.Proofs.YtenfjbcigkolaaaGreat
open Go.ChangeShapes Go.WideShapes Go.ChangeAt Go.RowKit
set_option linter.unusedVariables false

set_option maxHeartbeats 2000000 in
set_option maxRecDepth 10000 in
theorem joined_fits (k L : Nat) (hk : k < 256) (hL : L < 4294967296) (b o m cap : Nat) (A B : Nat → ByteArray) (hs : (cat A m).length + (cat B m).length ≤ 250) (hm : m ≤ 1000000000) (w : World) (h : RunsAt w b o m A B) :
    Calls Tryz.prog 178 #[.int .u8 k, .int .u32 (L : Int), .slice (some ⟨b, o, none⟩) m cap] w fun e w' => e = .returned (.tuple #[.agg (bc (setL (lay k (cat A m).length A B (cat A m).length m m) L)), .int .i64 0]) ∧ Below w.heap.size w w' := by
  have HR := hide (h.later (new_below w (.cells (bc zs) 32) rfl))
  have HZ := hide (PAt.new w zs)
  have HB := hide (new_below w (.cells (bc zs) 32) rfl)
  have HS := hide hs
  have hz := zero_page.1
  have hbu := built_page
  clear h hs
  go_enter Tryz.func178, Tryz.ntmps178
  go_wp2
  go_loopw [19, 8, 9] (fun iv cv sv wr => ∃ j : Nat, j ≤ m ∧ iv = .int .i64 (j : Int) ∧ cv = .int .i64 ((cat A j).length : Int) ∧ sv = .int .i64 ((6 + ((cat A j).length + (cat B j).length) : Nat) : Int) ∧ Below (w.alloc (.cells (bc zs) 32)).heap.size (w.alloc (.cells (bc zs) 32)) wr) (fun iv _ _ _ => m - (intOf iv).toNat)
  case atStart => exact ⟨0, Nat.zero_le _, rfl, rfl, rfl, Below.refl _ _⟩
  case round =>
    obtain ⟨j, hj, rfl, rfl, rfl, hbel⟩ := hrel
    have HBj := hide hbel
    clear hbel
    by_cases hlt : j < m
    · have l1 : (j : Int) < (m : Int) := by omega
      have l0 : (0 : Int) ≤ (j : Int) := by omega
      have hw1 : IntKind.i64.wrap ((j : Int) + 1) = (j : Int) + 1 := by rw [IntKind.wrap_i64]; omega
      obtain ⟨c0, c1⟩ := (HR.out.later HBj.out) j hlt
      have hs := HS.out
      have la := cat_len A j
      have lb := cat_len B j
      have ma := cat_mono A (show j + 1 ≤ m by omega)
      have mb := cat_mono B (show j + 1 ≤ m by omega)
      have e1 : IntKind.i64.wrap (((cat A j).length : Int) + ((A j).size : Int)) = ((cat A j).length : Int) + ((A j).size : Int) := by rw [IntKind.wrap_i64]; omega
      have e2 : IntKind.i64.wrap (((A j).size : Int) + ((B j).size : Int)) = ((A j).size : Int) + ((B j).size : Int) := by rw [IntKind.wrap_i64]; omega
      have e3 : IntKind.i64.wrap (6 + (((cat A j).length : Int) + ((cat B j).length : Int)) + (((A j).size : Int) + ((B j).size : Int))) = 6 + (((cat A j).length : Int) + ((cat B j).length : Int)) + (((A j).size : Int) + ((B j).size : Int)) := by rw [IntKind.wrap_i64]; omega
      have HN := hide (below_trans HBj.out (new_below wr (.cells #[.string (A j), .string (B j)] 272) rfl))
      have HLA := hide la
      have HLB := hide lb
      clear la lb ma mb hs
      go_wp2
      refine ⟨⟨j + 1, hlt, rfl, ?_, ?_, HN.out⟩, ?_⟩
      · rw [HLA.out]; congr 1
      · rw [HLA.out, HLB.out]; exact congrArg (Value.int IntKind.i64) (by omega)
      · simp only [intOf]; omega
    · have l1 : ¬ (j : Int) < (m : Int) := by omega
      obtain rfl : j = m := by omega
      obtain ⟨V1, hV1⟩ : ∃ V1, V1 = wr := ⟨_, rfl⟩
      subst hV1
      have hs := HS.out
      have l2 : ¬ (256 : Int) < 6 + (((cat A j).length : Int) + ((cat B j).length : Int)) := by omega
      have HB2 := hide (below_trans HB.out HBj.out)
      have HZ2 := hide (HZ.out.later HBj.out)
      have HR2 := hide (HR.out.later HBj.out)
      have z0 := bc_get (l := zs) (k := 0) (by rw [zs_length]; omega)
      have z1 := bc_get (l := zs) (k := 1) (by rw [zs_length]; omega)
      have hN : (cat A j).length ≤ 250 := by omega
      go_wp2
      rw [lay0 k (cat A j).length A B hk hN]
      have hs1 : ∀ V, (Instr.sliceAt 32 (.pointer (some ⟨V1.heap.size, 0, none⟩)) (some (.int .i64 6)) (some (.int .i64 (6 + ((cat A j).length : Int)))) none).run Tryz.prog V = .ok (.slice (some ⟨V1.heap.size, 6, none⟩) (cat A j).length 250) V := fun V => cut_page V V1.heap.size 6 (cat A j).length rfl rfl (by omega) (by omega)
      obtain ⟨x0, hs2, hx0, hx0'⟩ := cut_end' V1.heap.size (x := 6 + ((cat A j).length : Int)) (6 + (cat A j).length) (by omega) (by omega)
      have e4 : IntKind.i64.wrap (6 + ((cat A j).length : Int)) = 6 + ((cat A j).length : Int) := by rw [IntKind.wrap_i64]; omega
      have HX0 := hide hx0
      have HX0' := hide hx0'
      clear hx0 hx0' z0 z1 hbu
      go_region
      all_goals (try go_wp2)
      have hp0 : PAt (V1.alloc (.cells (bc (lay k (cat A j).length A B (cat A j).length 0 0)) 32)).drew V1.heap.size (lay k (cat A j).length A B (cat A j).length 0 0) := PAt.new V1 _
      have hb0 : Below V1.heap.size V1 (V1.alloc (.cells (bc (lay k (cat A j).length A B (cat A j).length 0 0)) 32)).drew := (new_below V1 _ rfl).drew
      generalize (V1.alloc (.cells (bc (lay k (cat A j).length A B (cat A j).length 0 0)) 32)).drew = W2 at hp0 hb0
      have HP0 := hide hp0
      have HB0 := hide hb0
      have HLL := hide hL
      clear hp0 hb0 hs1 hs2 e4 hL
      go_loopw [54, 13, 14] (fun iv lv bv wr => ∃ i xa xb : Nat, i ≤ j ∧ iv = .int .i64 (i : Int) ∧ lv = .slice (some ⟨V1.heap.size, xa, none⟩) ((cat A j).length - (cat A i).length) (250 - (cat A i).length) ∧ ((cat A i).length < 250 → xa = 6 + (cat A i).length) ∧ xa ≤ 256 ∧
        bv = .slice (some ⟨V1.heap.size, xb, none⟩) (250 - (cat A j).length - (cat B i).length) (250 - (cat A j).length - (cat B i).length) ∧ ((cat A j).length + (cat B i).length < 250 → xb = 6 + (cat A j).length + (cat B i).length) ∧ xb ≤ 256 ∧ PAt wr V1.heap.size (lay k (cat A j).length A B (cat A j).length i i) ∧ Below V1.heap.size V1 wr) (fun iv _ _ _ => j - (intOf iv).toNat)
      case atStart =>
        refine ⟨0, 6, x0, Nat.zero_le _, rfl, rfl, fun _ => rfl, by omega, ?_, fun h => ?_, ?_, HP0.out, HB0.out⟩
        · simp only [cat, List.length_nil]; congr 1
          · omega
          · omega
        · rw [HX0.out (by simp only [cat, List.length_nil] at h; omega)]; simp [cat]
        · by_cases h : 6 + (cat A j).length < 256
          · rw [HX0.out h]; omega
          · rw [HX0'.out (by omega)]; omega
      case round =>
        obtain ⟨i, xa, xb, hi, rfl, rfl, hxa, hxa', rfl, hxb, hxb', hpq, hbq⟩ := hrel
        have HPQ := hide hpq
        have HBQ := hide hbq
        clear hpq hbq
        by_cases hlt2 : i < j
        · have l3 : (i : Int) < (j : Int) := by omega
          have l0 : (0 : Int) ≤ (i : Int) := by omega
          have hw1 : IntKind.i64.wrap ((i : Int) + 1) = (i : Int) + 1 := by rw [IntKind.wrap_i64]; omega
          obtain ⟨c0, c1⟩ := (HR2.out.later HBQ.out) i hlt2
          have la := cat_len A i
          have lb := cat_len B i
          have ma := cat_mono A (show i + 1 ≤ j by omega)
          have mb := cat_mono B (show i + 1 ≤ j by omega)
          have HLn := hide (lay_length k (cat A j).length A B (cat A j).length i i (by omega) (by omega))
          have HLn2 := hide (lay_length k (cat A j).length A B (cat A j).length (i + 1) i (by omega) (by omega))
          obtain ⟨ya, hs3, hya, hya'⟩ := cut_tail V1.heap.size xa ((cat A j).length - (cat A i).length) (250 - (cat A i).length) (A i).size (by omega) (by omega) (y := ((A i).size : Int)) rfl
          obtain ⟨yb, hs4, hyb, hyb'⟩ := cut_tail V1.heap.size xb (250 - (cat A j).length - (cat B i).length) (250 - (cat A j).length - (cat B i).length) (B i).size (by omega) (by omega) (y := ((B i).size : Int)) rfl
          have HPN : Hid (PAt (wr.alloc (.cells #[.string (A i), .string (B i)] 272)) V1.heap.size (lay k (cat A j).length A B (cat A j).length i i)) := HPQ.out.later (new_below _ _ rfl)
          have HBN : Hid (Below V1.heap.size V1 (wr.alloc (.cells #[.string (A i), .string (B i)] 272))) := below_trans HBQ.out (new_below _ _ rfl)
          have HG : Hid (wr.heap.size ≠ V1.heap.size) := by
            have := (Array.getElem?_eq_some_iff.1 HPQ.out).1
            exact hide (by omega)
          have hA1 : xa + (A i).size ≤ 256 := by
            by_cases h0 : (A i).size = 0
            · omega
            · rw [hxa (by omega)]; omega
          have hA2 := put_A k (cat A j).length A B (cat A j).length i i xa (by
            by_cases h0 : (A i).size = 0
            · exact .inl h0
            · exact .inr (hxa (by omega))) (by omega)
          have hB1 : xb + (B i).size ≤ 256 := by
            by_cases h0 : (B i).size = 0
            · omega
            · rw [hxb (by omega)]; omega
          have hB2 := put_B k (cat A j).length A B (cat A j).length (i + 1) i xb (by omega) (by
            by_cases h0 : (B i).size = 0
            · exact .inl h0
            · exact .inr (hxb (by omega))) (by omega)
          have HF1 := hide hA1
          have HF2 := hide hA2
          have HF3 := hide hB1
          have HF4 := hide hB2
          have HD1 := hide (show (A i).size ≤ (cat A j).length - (cat A i).length by omega)
          have HD2 := hide (show (B i).size ≤ 250 - (cat A j).length - (cat B i).length by omega)
          have HX1 := hide hxa
          have HX2 := hide hxb
          have HX3 := hide hya
          have HX4 := hide hya'
          have HX5 := hide hyb
          have HX6 := hide hyb'
          have HX7 := hide la
          have HX8 := hide lb
          have HX9 := hide ma
          have HX10 := hide mb
          have HX11 := hide hxa'
          have HX12 := hide hxb'
          clear hxa hxb hya hya' hyb hyb' la lb ma mb hA1 hA2 hB1 hB2 hs hxa' hxb'
          go_wp2_with (first
            | (refine wp_copyP HLn.out HPN.out HF1.out HD1.out _ _ (by rfl) (by rfl) (by rfl) (by rfl) ?_; intro W3 hp hb hq; rw [HF2.out] at hp; have HP3 := hide hp; have HB3 := hide (hb _ _ HBN.out (Nat.le_refl _)); have d1 : W3.cell? ⟨wr.heap.size, 1, none⟩ = some (.string (B i)) := (by rw [cell_of_row W3 wr.heap.size 1 #[.string (A i), .string (B i)] 272 (0, 0) (by rw [hq _ HG.out]; exact heap_alloc_new _ _)]; rfl); clear hp hb hq)
            | (refine wp_copyP HLn2.out HP3.out HF3.out HD2.out _ _ (by rfl) (by rfl) (by rfl) (by rfl) ?_; intro W4 hp hb hq; rw [HF4.out] at hp; have HP4 := hide hp; have HB4 := hide (hb _ _ HB3.out (Nat.le_refl _)); clear hp hb hq))
          have la := HX7.out
          have lb := HX8.out
          have ma := HX9.out
          have mb := HX10.out
          have hs := HS.out
          refine ⟨⟨i + 1, ya, yb, hlt2, rfl, ?_, fun h => ?_, ?_, ?_, fun h => ?_, ?_, HP4.out, HB4.out⟩, ?_⟩
          · congr 1 <;> omega
          · rw [HX3.out (by omega), HX1.out (by omega)]; omega
          · by_cases h : (A i).size < 250 - (cat A i).length
            · rw [HX3.out h]; exact HF1.out
            · rw [HX4.out (by omega)]; exact HX11.out
          · congr 1 <;> omega
          · rw [HX5.out (by omega), HX2.out (by omega)]; omega
          · by_cases h : (B i).size < 250 - (cat A j).length - (cat B i).length
            · rw [HX5.out h]; exact HF3.out
            · rw [HX6.out (by omega)]; exact HX12.out
          · simp only [intOf]; omega
        · have l3 : ¬ (i : Int) < (j : Int) := by omega
          obtain rfl : i = j := by omega
          have HLn := hide (lay_length k (cat A i).length A B (cat A i).length i i (Nat.le_refl _) (by omega))
          have HLs := hide ((setL_length (lay k (cat A i).length A B (cat A i).length i i) L).trans HLn.out)
          have HZ3 := hide (HZ2.out.later HBQ.out)
          have HB3 := hide (below_trans HB2.out HBQ.out)
          clear hxa hxb hxa' hxb' hs
          go_wp2_with (first
            | (refine wp_loadP HLn.out HPQ.out _ (by rfl) (by rfl) (by rfl) ?_)
            | (go_at_call 213; with_reducible refine Calls.mono (linked_walk _ HLn.out L HLL.out _) ?_; rintro e W5 ⟨rfl, hb⟩; have HZ5 := hide (HZ3.out.later hb); have HB5 := hide (below_trans HB3.out hb); clear hb)
            | (refine wp_storeP HLs.out zs_length HZ5.out _ _ (by rfl) (by rfl) (by rfl) (by rfl) ?_; intro W6 hp hb hq; have HP6 := hide hp; have HB6 := hide (hb _ _ HB5.out (Nat.le_refl _)); clear hp hb hq)
            | (exact ret_page2 Tryz.results178 rfl rfl HLs.out HP6.out ⟨rfl, HB6.out⟩))
end Go.Proofs.YtenfjbcigkolaaaGreat

namespace Go.Proofs.YtenfjbcigkolaaaGreat
open Go.ChangeShapes Go.WideShapes Go.ChangeAt Go.RowKit
set_option linter.unusedVariables false

/-- The length of a cell, as a text. -/
def lenS (s : ByteArray) : ByteArray := ⟨#[UInt8.ofNat s.size]⟩
/-- A piece of memory as a text. -/
theorem conv_piece (W : World) (g x cap : Nat) (l : List UInt8) (h : ∀ j, j < l.length → W.cell? ⟨g, x + j, none⟩ = some (.int .u8 (byt l j : Int))) : (convert 53 9 (.slice (some ⟨g, x, none⟩) l.length cap)).run Tryz.prog W = .ok (.string ⟨l.toArray⟩) W := by
  refine run_convert_bytes_back W _ _ 5 ⟨g, x, none⟩ cap l Tryz.underlying53 Tryz.underlying5 Tryz.underlying9 ?_
  intro j hj
  have e : (⟨g, x, none⟩ : Addr).add j = ⟨g, x + j, none⟩ := by unfold Addr.add; split <;> simp_all
  rw [e, h j hj]
  simp [byt, hj]
theorem ret_run {W : World} {g j : Nat} {fn : Func} (hres : fn.results = #[.cell j 272]) {tmps : Array Value} (ht : tmps.getD j undef = .pointer (some ⟨g, 0, none⟩)) {a b : Value}
    (hg : W.heap[g]? = some (.cells #[a, b] 272 (0, 0))) {R : Ending → World → Prop} (h : R (.returned (.agg #[a, b])) W) : bodyPost Tryz.prog fn R Exit.ret { tmps := tmps, defers := [] } W :=
  bodyPost_ret (v := .agg #[a, b]) (results_cell_row hres _ _ g 272 _ (0, 0) _ ht hg Tryz.underlying272 rfl (by kernel_rfl)) rfl h

set_option maxRecDepth 20000 in
set_option maxHeartbeats 1000000 in
theorem single_walk (s : ByteArray) (hs : s.size ≤ 60) (w : World) :
    Calls Tryz.prog 177 #[.string s] w fun e w' => e = .returned (.agg #[.string (lenS s), .string s]) ∧ Below w.heap.size w w' := by
  have e1 : IntKind.u8.wrap (s.size : Int) = (s.size : Int) := by rw [IntKind.wrap_u8]; omega
  have hcv : (convert 53 9 (.slice (some ⟨w.heap.size + 1, 0, none⟩) 1 1)).run Tryz.prog ((w.alloc (.cells #[.string ⟨#[]⟩, .string ⟨#[]⟩] 272)).alloc (.cells #[.int .u8 (s.size : Int)] 5)) = .ok (.string (lenS s)) ((w.alloc (.cells #[.string ⟨#[]⟩, .string ⟨#[]⟩] 272)).alloc (.cells #[.int .u8 (s.size : Int)] 5)) := by
    refine conv_piece _ (w.heap.size + 1) 0 1 [UInt8.ofNat s.size] (fun j hj => ?_)
    have hj0 : j = 0 := by simpa using hj
    subst hj0
    have h := heap_alloc2_new w (.cells #[.string ⟨#[]⟩, .string ⟨#[]⟩] 272) (.cells #[.int .u8 (s.size : Int)] 5)
    rw [cell_of_row _ _ _ _ _ _ h]
    simp [byt]
    omega
  go_enter Tryz.func177, Tryz.ntmps177
  go_wp2
  exact ret_run Tryz.results177 rfl (heap_alloc2_old w _ _) ⟨rfl, below_trans (new_below w _ rfl) (new_below _ _ rfl)⟩

/-- The cells of runs of one cell each. -/
def rcl (S : Nat → ByteArray) (n : Nat) : List Value := (List.range (n * 2)).map fun j => if j % 2 = 0 then .string (lenS (S (j / 2))) else .string (S (j / 2))
theorem rcl_succ (S : Nat → ByteArray) (n : Nat) : rcl S (n + 1) = rcl S n ++ [.string (lenS (S n)), .string (S n)] := by
  unfold rcl
  rw [show (n + 1) * 2 = n * 2 + 1 + 1 by omega, List.range_succ, List.range_succ]
  simp only [List.map_append, List.map_cons, List.map_nil, List.append_assoc, List.cons_append, List.nil_append]
  rw [if_pos (by omega), if_neg (by omega), show n * 2 / 2 = n by omega, show (n * 2 + 1) / 2 = n by omega]
theorem rcl_at (S : Nat → ByteArray) {n i : Nat} (h : i < n) : (rcl S n)[i * 2]? = some (.string (lenS (S i))) ∧ (rcl S n)[i * 2 + 1]? = some (.string (S i)) := by
  unfold rcl
  rw [List.getElem?_map, List.getElem?_map, List.getElem?_range (by omega), List.getElem?_range (by omega)]
  simp only [Option.map_some]
  rw [if_pos (by omega), if_neg (by omega), show i * 2 / 2 = i by omega, show (i * 2 + 1) / 2 = i by omega]
  exact ⟨rfl, rfl⟩
theorem runs_of_own {w : World} {base g n cap : Nat} {S : Nat → ByteArray} (h : w.ownsRow base 272 2 (.slice (some ⟨g, 0, none⟩) n cap) n (rcl S n)) : RunsAt w g 0 n (fun i => lenS (S i)) S := by
  intro i hi
  obtain ⟨h1, h2⟩ := rcl_at S hi
  have c1 := h.cells (g := g) rfl _ _ h1
  have c2 := h.cells (g := g) rfl _ _ h2
  have e : ∀ j, (⟨g, 0, none⟩ : Addr).add j = ⟨g, j, none⟩ := fun j => by unfold Addr.add; split <;> simp_all
  rw [e] at c1 c2
  simp only [Nat.zero_add]
  exact ⟨c1, c2⟩
theorem run_info : ∃ i, Tryz.prog.info? 272 = some i ∧ i.zero = some (.agg #[.string ⟨#[]⟩, .string ⟨#[]⟩]) ∧ i.size = 2 ∧ i.bytes = 32 := by
  have h : (Tryz.prog.info? 272).map (fun i => (i.zero, i.size, i.bytes)) = some (some (.agg #[.string ⟨#[]⟩, .string ⟨#[]⟩]), 2, 32) := by kernel_rfl
  obtain ⟨i, h1, h2⟩ := Option.map_eq_some_iff.1 h
  simp only [Prod.mk.injEq] at h2
  exact ⟨i, h1, h2.1, h2.2.1, h2.2.2⟩
/-- One run more. -/
theorem wp_appR {ops : Array Oper} {rest : List Oper} {o : Oper} {a : Act} {Q : Exit → Act → World → Prop} {w : World} {base g n cap : Nat} {xs : List Value} (hown : w.ownsRow base 272 2 (.slice (some ⟨g, 0, none⟩) n cap) n xs) {h : Nat} {A B : ByteArray}
    (hc : w.heap[h]? = some (.cells #[.string A, .string B] 272 (0, 0))) (hroom : n + 1 ≤ cap) (s z : Operand)
    (hgd : o.guard = none) (ho : o.op = .call { callee := .builtin .append, args := #[s, z], argTypes := #[270, 270] }) (hs : a.eval s = .slice (some ⟨g, 0, none⟩) n cap) (hz : a.eval z = .slice (some ⟨h, 0, none⟩) 1 1)
    (hk : ∀ w', w'.ownsRow base 272 2 (.slice (some ⟨g, 0, none⟩) (n + 1) cap) (n + 1) (xs ++ [.string A, .string B]) → w.grownBy w' (some g) → wpList Tryz.prog ops Q rest (a.put o.dst (.slice (some ⟨g, 0, none⟩) (n + 1) cap)) w') : wpList Tryz.prog ops Q (o :: rest) a w := by
  obtain ⟨i, hi, hz0, hsz, hby⟩ := run_info
  obtain ⟨w', hr, h2, h3⟩ := run_append_fits (P := Tryz.prog) w base 270 o.type 272 i 2 Tryz.underlying270 hi hsz g n cap xs hown ⟨h, 0, none⟩ 1 1 [.string A, .string B] rfl (by
    intro j u hu
    have e : (⟨h, 0, none⟩ : Addr).add j = ⟨h, j, none⟩ := by unfold Addr.add; split <;> simp_all
    rw [e, cell_of_row _ _ _ _ _ _ hc]
    simpa using hu) (by
    intro u hu
    simp at hu
    rcases hu with rfl | rfl <;> rfl) hroom
  refine wpList_plain hgd fun K hK => ?_
  unfold Oper.wp execOp
  simp only [ho, resolve, invoke, builtin, Sem.run_bind, Sem.run_pure, Result.andThen_ok, List.map_toArray, List.map_cons, List.map_nil, hs, hz, hr]
  exact hK _ _ (hk w' h2 h3)
end Go.Proofs.YtenfjbcigkolaaaGreat
