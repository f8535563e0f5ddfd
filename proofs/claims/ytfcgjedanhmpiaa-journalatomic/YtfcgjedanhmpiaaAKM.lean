/- Pages, changed, as a row. -/
/- Pages, changed, as a row: after. -/
import Derived.Test.YtfcgjedanhmpiaaAKK
namespace Go.Proofs.Ytfcgjedanhmpiaa
open Go.ChangeShapes Go.WideShapes Go.ChangeAt Go.RowKit
open Go.ChangeMaps (setBlock)
set_option linter.unusedVariables false

/-- What was there, with zeros behind it; then the first pages laid over it. -/
def padL (nw : Nat) (W : Nat → List UInt8) : Nat → List UInt8 := fun k => if k < nw then W k else z256
def aftL (nw : Nat) (W : Nat → List UInt8) (N : Nat → Nat) (L : Nat → List UInt8) : Nat → Nat → List UInt8
  | 0 => padL nw W
  | j + 1 => fun k => if k = N j - 1 then L j else aftL nw W N L j k
theorem wp_run39 {ops : Array Oper} {rest : List Oper} {o : Oper} {a : Act} {Q : Exit → Act → World → Prop} {w : World} {v : Value} (hgd : o.guard = none) (s x : Operand) (ho : o.op = .call { callee := .builtin .append, args := #[s, x], argTypes := #[39, 39] })
    (hr : (Builtin.append_ #[39, 39] o.type #[a.eval s, a.eval x]).run Try.prog w = .ok v w) (hk : wpList Try.prog ops Q rest (a.put o.dst v) w) : wpList Try.prog ops Q (o :: rest) a w := by
  refine wpList_plain hgd fun K hK => ?_
  unfold Oper.wp execOp
  simp only [ho, resolve, invoke, builtin, Sem.run_bind, Sem.run_pure, Result.andThen_ok, List.map_toArray, List.map_cons, List.map_nil, hr]
  exact hK _ _ hk
/-- A row of pages is appended to a row of one's own. -/
theorem wp_app39 {ops : Array Oper} {rest : List Oper} {o : Oper} {a : Act} {Q : Exit → Act → World → Prop} {W : World} {base g0 m c : Nat} {p : Option Addr} {L : Nat → List UInt8} (hown : W.ownsRow base 24 256 (.slice (some ⟨g0, 0, none⟩) 0 0) 0 []) (hA : PgR W p m L) (hm : m ≤ 1000) (hbase : base ≤ W.heap.size) (s x : Operand)
    (hgd : o.guard = none) (ho : o.op = .call { callee := .builtin .append, args := #[s, x], argTypes := #[39, 39] }) (hs : a.eval s = .slice (some ⟨g0, 0, none⟩) 0 0) (hx : a.eval x = .slice p m c)
    (hk : ∀ g cap w', w'.ownsRow base 24 256 (.slice (some ⟨g, 0, none⟩) m cap) m (rowsC (fun j => bcs (L j)) m) → (∀ w0 : World, w0.heap.size ≤ base → w0.grownBy W none → w0.grownBy w' none) → wpList Try.prog ops Q rest (a.put o.dst (.slice (some ⟨g, 0, none⟩) m cap)) w') :
    wpList Try.prog ops Q (o :: rest) a W := by
  obtain ⟨i, z, hi, hz0, hz1, hz2, hz3⟩ := infoE24
  rcases Nat.eq_zero_or_pos m with rfl | hpos
  · refine wp_run39 (v := .slice (some ⟨g0, 0, none⟩) 0 0) hgd s x ho ?_ (hk g0 0 W hown (fun w0 _ h => h))
    rw [hs, hx]
    cases p <;> simp [Builtin.append_, run_underlying Try.underlying39, Builtin.lenOf, Builtin.firstCells, sizeOf, typeInfo, hi, storeCells, loadCells, loadCellsFrom]
  · obtain ⟨gp, cur, rfl, hb, hc⟩ := hA hpos
    have hC : ∀ j, j < m → ((fun j => bcs (L j)) j).length = 256 := fun j hj => by show (bcs (L j)).length = 256; rw [length_bcs, (hc j hj).1]
    have hlen := rowsC_length hC
    refine wpList_append_lies _ hgd s x 39 ho base 24 i z 256 256 Try.underlying39 hi hz0 hz1 hz2 hz3 (by omega) _ 0 [] hs hown ⟨gp, 0, none⟩ m c (rowsC (fun j => bcs (L j)) m) hx hlen (fun j u hj => ?_) (fun u hu => ?_) hpos (by simp only [maxLen]; omega) (by omega) hbase _ rfl ?_
    · have hjm : j < m * 256 := by have := (List.getElem?_eq_some_iff.1 hj).1; rw [hlen] at this; exact this
      have h1 := rowsC_get hC (j / 256) (j % 256) (by omega) (Nat.mod_lt _ (by omega))
      rw [show j / 256 * 256 + j % 256 = j by omega, hj] at h1
      rw [show (⟨gp, 0, none⟩ : Addr).add j = ⟨gp, j / 256 * 256 + j % 256, none⟩ by unfold Addr.add; split <;> simp_all; omega]
      exact (hc (j / 256) (by omega)).2 (j % 256) u h1.symm
    · obtain ⟨j, hj, rfl⟩ := List.getElem_of_mem hu
      have h1 := rowsC_get hC (j / 256) (j % 256) (by omega) (Nat.mod_lt _ (by omega))
      rw [show j / 256 * 256 + j % 256 = j by omega, List.getElem?_eq_getElem hj] at h1
      exact one_bcs (L (j / 256)) _ (List.mem_of_getElem? h1.symm)
    · intro g cap w' hown' hgr hgg hlt
      rw [Nat.zero_add, List.nil_append] at hown'
      have := hk g cap w' hown' (fun w0 h0 hW => ?_)
      · simpa using this
      · refine ⟨hgr.os.trans hW.os, hgr.tape.trans hW.tape, hgr.output.trans hW.output, Nat.le_trans hW.size hgr.size, fun k hk hn => ?_⟩
        have hkW : k < W.heap.size := Nat.lt_of_lt_of_le hk hW.size
        refine (hgr.block k hkW (fun e => ?_)).trans (hW.block k hk hn)
        have := (hown.lt k e.symm).1
        omega
theorem own_zero (W : World) {base : Nat} (hb : base ≤ W.heap.size) : (W.alloc (.cells #[] 24)).ownsRow base 24 256 (.slice (some ⟨W.heap.size, 0, none⟩) 0 0) 0 [] :=
  ⟨rfl, .inr ⟨W.heap.size, 0, #[], rfl, hb, heap_alloc_new W _, Nat.le_refl _, by simp [maxLen], rfl, rfl⟩⟩
/-- Pages in the block of a row. -/
def PgB (w : World) (g cnt : Nat) (L : Nat → List UInt8) : Prop := ∃ cur : Array Value, Blk w g cur 24 ∧ cnt * 256 ≤ cur.size ∧ ∀ k, k < cnt → (L k).length = 256 ∧ w.rangeAt g (k * 256) (bcs (L k))
theorem own_PgB {w : World} {base g k cap : Nat} {L : Nat → List UInt8} (hL : ∀ j, j < k → (L j).length = 256) (h : w.ownsRow base 24 256 (.slice (some ⟨g, 0, none⟩) k cap) k (rowsC (fun j => bcs (L j)) k)) : base ≤ g ∧ k ≤ cap ∧ PgB w g k L := by
  rcases h.2 with ⟨e, _⟩ | ⟨g', cap', cur, e, hbg, hg, hnc, hcm, hcs, htake⟩
  · cases e
  · cases e
    refine ⟨hbg, hnc, cur, hg, ?_, fun j hj => ⟨hL j hj, fun i v hv => ?_⟩⟩
    · rw [hcs]; exact Nat.mul_le_mul_right 256 hnc
    · have hC : ∀ j, j < k → ((fun j => bcs (L j)) j).length = 256 := fun j hj => by show (bcs (L j)).length = 256; rw [length_bcs, hL j hj]
      have hi : i < 256 := by have := (List.getElem?_eq_some_iff.1 hv).1; rw [length_bcs, hL j hj] at this; exact this
      rw [Blk.cell hg]
      have h1 := rowsC_get hC j i hj hi
      rw [← htake, List.getElem?_take, if_pos (by have : j * 256 + 256 ≤ k * 256 := by omega
                                                  omega)] at h1
      rw [← Array.getElem?_toList, h1]
      exact hv
end Go.Proofs.Ytfcgjedanhmpiaa

namespace Go.Proofs.Ytfcgjedanhmpiaa
open Go.ChangeShapes Go.WideShapes Go.ChangeAt Go.RowKit
open Go.ChangeMaps (setBlock)
set_option linter.unusedVariables false

def slen : Value → Nat
  | .slice _ n _ => n
  | _ => 0
theorem in_rows {k cnt s : Nat} (hk : k < cnt) (hs : cnt * 256 ≤ s) : k * 256 + 256 ≤ s := by
  have := Nat.mul_le_mul_right 256 (Nat.succ_le_of_lt hk)
  rw [Nat.succ_mul] at this
  exact Nat.le_trans this hs
theorem in_row {k j s : Nat} (hj : j < 256) (hs : k * 256 + 256 ≤ s) : k * 256 + j < s := by omega
theorem apart_rows {j k : Nat} (e : ¬ j = k) : j * 256 + 256 ≤ k * 256 ∨ k * 256 + 256 ≤ j * 256 := by omega
theorem step_storePg {ops : Array Oper} {o : Oper} {a : Act} {W : World} {K : Act → World → Prop} {Q : Exit → Act → World → Prop} {E : Prop} {g cnt k : Nat} {L : Nat → List UInt8} {l : List UInt8} (hB : PgB W g cnt L) (hk : k < cnt) (hl : l.length = 256) (x y : Operand)
    (hgd : o.guard = none) (ho : o.op = .store 24 x y) (hx : a.eval x = .pointer (some ⟨g, k * 256, none⟩)) (hy : a.eval y = .agg (bcs l).toArray)
    (h : ∀ W', PgB W' g cnt (fun j => if j = k then l else L j) → Only [g] W W' → K (a.put o.dst undef) W') : if Region.wanted o (yielded ops a.tmps) = true then Oper.wp Try.prog o a W K Q else E := by
  have hw : Region.wanted o (yielded ops a.tmps) = true := by simp [Region.wanted, hgd]
  rw [if_pos hw]
  obtain ⟨cur, hb, hsz, hc⟩ := hB
  have hbl : (bcs l).length = 256 := by rw [length_bcs, hl]
  have hin : k * 256 + 256 ≤ cur.size := in_rows hk hsz
  have hth : W.there g (k * 256) 256 := fun j hj => ⟨by rw [hb.cell, Array.getElem?_eq_getElem (in_row hj hin)]; rfl, hb.frozen _⟩
  refine wp_store_mid 24 x y ho g (k * 256) (bcs l).toArray hx hy (by rw [List.size_toArray, hbl]; exact hth) (size24 hl) (bytes_all l) ?_
  rw [List.toList_toArray]
  refine h _ ⟨_, setCells_blk (w := W) (bcs l) (k * 256) W cur hb (by rw [hbl]; exact hin), ?_, fun j hj => ?_⟩ (setCells_only g (bcs l) (k * 256) W)
  · rw [List.size_toArray, length_splice _ _ _ (by rw [hbl]; simpa using hin)]; simpa using hsz
  · show ((if j = k then l else L j) : List UInt8).length = 256 ∧ (W.setCells g (k * 256) (bcs l)).rangeAt g (j * 256) (bcs (if j = k then l else L j))
    by_cases e : j = k
    · rw [if_pos e, e]
      exact ⟨hl, World.rangeAt_setCells_same W g (k * 256) (bcs l) (by rw [hbl]; exact hth)⟩
    · rw [if_neg e]
      refine ⟨(hc j hj).1, World.rangeAt_setCells_apart (hc j hj).2 g (k * 256) (bcs l) (.inr ?_)⟩
      rw [length_bcs, (hc j hj).1, hbl]
      exact apart_rows e
theorem padL_len {nw : Nat} {W : Nat → List UInt8} (h : ∀ j, j < nw → (W j).length = 256) (j : Nat) : (padL nw W j).length = 256 := by
  unfold padL
  split
  · exact h j (by assumption)
  · exact z256_length
theorem pad_rows {nw : Nat} {W : Nat → List UInt8} : rowsC (fun j => bcs (W j)) nw = rowsC (fun j => bcs (padL nw W j)) nw := rowsC_congr (fun j hj => by show bcs (W j) = bcs (padL nw W j); unfold padL; rw [if_pos hj])
theorem pad_next {nw k : Nat} {W : Nat → List UInt8} (h : nw ≤ k) : rowsC (fun j => bcs (padL nw W j)) (k + 1) = rowsC (fun j => bcs (padL nw W j)) k ++ bcs z256 := by
  rw [rowsC]
  congr 1
  show bcs (padL nw W k) = _
  unfold padL
  rw [if_neg (by omega)]

set_option maxHeartbeats 8000000 in
set_option maxRecDepth 20000 in
theorem after_j (w : World) (pw pl : Option Addr) (nw cw n cl count : Nat) (W : Nat → List UInt8) (N : Nat → Nat) (L : Nat → List UInt8) (hW : PgR w pw nw W) (hWl : ∀ j, j < nw → (W j).length = 256) (hp : PgA w pl n (fun k => (N k : Int)) L) (hN : Rise count n N) (hcount : count ≤ 100) (hnw : nw ≤ 100) (hn : n ≤ 100) :
    Calls Try.prog 15 #[.slice pw nw cw, .int .i64 (count : Int), .slice pl n cl] w fun e w' => (∃ q c, e = .returned (.slice q count c) ∧ PgR w' q count (aftL nw W N L n)) ∧ w.grownBy w' none := by
  have HW := hideJ hW
  have HWl := hideJ hWl
  have HP := hideJ hp
  have HR := hideJ hN
  have HM := hideJ (And.intro hcount (And.intro hnw hn))
  have HOz := hideJ (own_zero w (base := w.heap.size) (Nat.le_refl _))
  have HGz := hideJ (World.grownBy_alloc w (.cells #[] 24) none)
  have HPw := hideJ (hW.grown (World.grownBy_alloc w (.cells #[] 24) none))
  clear hW hWl hp hN hcount hnw hn
  go_enter Try.func15, Try.ntmps15
  go_wp2_with (first
    | ((with_reducible refine atApp39 ?_); refine wp_app39 HOz.out HPw.out (by have := HM.out; omega) HGz.out.size _ _ (by rfl) (by rfl) (by rfl) (by rfl) ?_; intro g1 cap1 w1 hown1 hgr1; have HO1 := hideJ hown1; have HG1 := hideJ (hgr1 w (Nat.le_refl _) HGz.out); clear hown1 hgr1))
  go_loopw [7] (fun sv wr => ∃ (g cap k : Nat), nw ≤ k ∧ (k = nw ∨ k ≤ count) ∧ sv = .slice (some ⟨g, 0, none⟩) k cap ∧ wr.ownsRow w.heap.size 24 256 (.slice (some ⟨g, 0, none⟩) k cap) k (rowsC (fun j => bcs (padL nw W j)) k) ∧ w.grownBy wr none) (fun sv _ => count - slen sv)
  case atStart => exact ⟨g1, cap1, nw, Nat.le_refl _, .inl rfl, rfl, by rw [← pad_rows]; exact HO1.out, HG1.out⟩
  case round =>
    obtain ⟨g, cap, k, hk1, hk2, rfl, hown, hg⟩ := hrel
    have HOw := hideJ hown
    have HG := hideJ hg
    have HK := hideJ (And.intro hk1 hk2)
    clear hown hg hk1 hk2
    by_cases hlt : k < count
    · have l1 : (k : Int) < (count : Int) := by omega
      have HKc := hideJ hlt
      have HNx := hideJ (pad_next (W := W) HK.out.1)
      have HX6 : Hid ((bcs z256).toArray.size = 256 ∧ (bcs z256).length = 1 * 256) := ⟨by rw [List.size_toArray, length_bcs, z256_length], by rw [length_bcs, z256_length]⟩
      have HX1 := hideJ (one_bcs z256)
      go_wp2_with (first
        | ((with_reducible refine atBs39 ?_); refine wp_bs1 (X := (bcs z256).toArray) Try.underlying39 infoE24 (by omega) (by omega) HX6.out.1 _ (by rfl) (by rfl) (by first | rfl | (show Value.agg Try.zeroCells24 = _; rw [zc24])) ?_)
        | ((with_reducible refine atApp39 ?_); refine wp_appE (m := 1) Try.underlying39 infoE24 (by omega) (by omega) (bcs z256) HX6.out.2 (by omega) HX1.out HOw.out (by have := HM.out; have := HKc.out; omega) HG.out.size _ _ (by rfl) (by rfl) (by rfl) (by rfl) ?_; intro g6 cap6 w6 hown6 hap6; have HO6 := hideJ hown6; have HG6 := hideJ (hap6.grown w (Nat.le_refl _) HG.out); clear hown6 hap6))
      refine ⟨⟨g6, cap6, k + 1, by have := HK.out.1; omega, .inr HKc.out, rfl, by rw [HNx.out]; exact HO6.out, HG6.out⟩, ?_⟩
      simp only [slen]; have := HKc.out; omega
    · have l1 : ¬ (k : Int) < (count : Int) := by omega
      obtain ⟨hge, hkc, hpb⟩ := own_PgB (fun j _ => padL_len HWl.out j) HOw.out
      have l2 : (count : Int) ≤ (cap : Int) := by omega
      have l3 : (0 : Int) ≤ (count : Int) := by omega
      have HPb0 : Hid (PgB wr g count (padL nw W)) := by
        obtain ⟨cur, h1, h2, h3⟩ := hpb
        exact ⟨cur, h1, by omega, fun j hj => h3 j (by omega)⟩
      have HGe := hideJ hge
      clear hge hkc hpb
      go_wp2
      go_loopw [8] (fun iv wq => ∃ j : Nat, j ≤ n ∧ iv = .int .i64 (j : Int) ∧ PgB wq g count (aftL nw W N L j) ∧ w.grownBy wq none) (fun iv _ => n - (intOf iv).toNat)
      case atStart => exact ⟨0, Nat.zero_le _, rfl, HPb0.out, HG.out⟩
      case round =>
        obtain ⟨j, hj, rfl, hpb, hgq⟩ := hrel
        have HPb1 := hideJ hpb
        have HGq := hideJ hgq
        clear hpb hgq
        by_cases hjn : j < n
        · have m1 : (j : Int) < (n : Int) := by omega
          have m0 : (0 : Int) ≤ (j : Int) := by omega
          have hw1 : IntKind.i64.wrap ((j : Int) + 1) = (j : Int) + 1 := by have := HM.out; rw [IntKind.wrap_i64]; omega
          have HJ := hideJ hjn
          have hNj := HR.out.low j hjn
          obtain ⟨K1, hK1⟩ : ∃ K1, N j = K1 + 1 := ⟨N j - 1, by omega⟩
          have HK1c : Hid (K1 < count) := by show K1 < count; omega
          have HK1 := hideJ hK1
          have k1 : (K1 : Int) < (count : Int) := by omega
          have k0 : (0 : Int) ≤ (K1 : Int) := by omega
          have hwk : IntKind.i64.wrap (K1 : Int) = (K1 : Int) := by have := HM.out; rw [IntKind.wrap_i64]; omega
          obtain ⟨gp, cur, rfl, hbp, hcp⟩ := HP.out (by omega)
          have HLj := hideJ (hcp j hjn).1
          have hrj := (hcp j hjn).2
          have HSa : Hid (w.cell? ⟨gp, j * 257, none⟩ = some (.int .i64 ((K1 : Int) + 1)) ∧ w.rangeAt gp (j * 257 + 1) (bcs (L j))) := by
            refine ⟨?_, fun a v hv => ?_⟩
            · have := hrj 0 (.int .i64 (N j : Int)) rfl
              rw [hK1] at this
              simpa using this
            · have := hrj (a + 1) v (by simpa [pcl] using hv)
              rw [show j * 257 + 1 + a = j * 257 + (a + 1) by omega]
              exact this
          have hgp : gp < w.heap.size := hbp.lt
          have HSg : Hid (∀ V, w.grownBy V none → V.cell? ⟨gp, j * 257, none⟩ = some (.int .i64 ((K1 : Int) + 1)) ∧ V.rangeAt gp (j * 257 + 1) (bcs (L j))) := fun V hV => ⟨grown_cell hV HSa.out.1, fun a v hv => grown_cell hV (HSa.out.2 a v hv)⟩
          have HSz : Hid ((Try.prog.info? 24).map (·.size) = some (bcs (L j)).length) := by show _ = _; rw [length_bcs, HLj.out]; exact info24
          have HU := hideJ Try.underlying24
          have HS0 := hideJ (HSg.out wr.drew (grown_trans' HGq.out (World.grownBy_drew wr)))
          have HSo : Hid (∀ V, Only [g] wr.drew V → V.cell? ⟨gp, j * 257, none⟩ = some (.int .i64 ((K1 : Int) + 1)) ∧ V.rangeAt gp (j * 257 + 1) (bcs (L j))) := fun V ho => HSg.out V (grown_only (grown_trans' HGq.out (World.grownBy_drew wr)) ho HGe.out)
          have HPb : Hid (PgB wr.drew g count (aftL nw W N L j)) := by
            obtain ⟨cc, h1, h2, h3⟩ := HPb1.out
            exact ⟨cc, h1, h2, fun a ha => h3 a ha⟩
          go_upto_region 8 with fail
          clear hbp hcp hrj hgp hNj hK1
          generalize hC : bcs (L j) = C at HS0 HSo HSz
          have HCe := hideJ hC.symm
          clear hC
          · skip
            refine wp_region_held_drew (S := fun V => V.cell? ⟨gp, j * 257, none⟩ = some (.int .i64 ((K1 : Int) + 1)) ∧ V.rangeAt gp (j * 257 + 1) C) (by kernel_rfl) (HS0.out) (fun hHeld => ?_)
            refine wpAnyH_take (i := 0) (v := .slice (some ⟨g, 0, none⟩) count cap) rfl (by kernel_rfl) (by kernel_rfl) (by kernel_rfl) (fun _ _ _ h => h) (Or.inl ⟨by rfl, fun V hV => by (obtain ⟨hV1, hV2⟩ := hV; go_simp)⟩) hHeld ?_
            try simp only [Act.put, List.getElem_toArray, List.getElem_cons_zero, List.setIfInBounds_toArray, List.set_cons_zero, List.set_cons_succ]
            refine wpAnyH_take (i := 1) (v := .slice (some ⟨gp, 0, none⟩) n cl) rfl (by kernel_rfl) (by kernel_rfl) (by kernel_rfl) (fun _ _ _ h => h) (Or.inl ⟨by rfl, fun V hV => by (obtain ⟨hV1, hV2⟩ := hV; go_simp)⟩) hHeld ?_
            try simp only [Act.put, List.getElem_toArray, List.getElem_cons_succ, List.getElem_cons_zero, List.setIfInBounds_toArray, List.set_cons_zero, List.set_cons_succ]
            refine wpAnyH_take (i := 2) (v := .int .i64 (j : Int)) rfl (by kernel_rfl) (by kernel_rfl) (by kernel_rfl) (fun _ _ _ h => h) (Or.inl ⟨by rfl, fun V hV => by (obtain ⟨hV1, hV2⟩ := hV; go_simp)⟩) hHeld ?_
            try simp only [Act.put, List.getElem_toArray, List.getElem_cons_succ, List.getElem_cons_zero, List.setIfInBounds_toArray, List.set_cons_zero, List.set_cons_succ]
            refine wpAnyH_take (i := 3) (v := .pointer (some ⟨gp, j * 257, none⟩)) rfl (by kernel_rfl) (by kernel_rfl) (by kernel_rfl) (fun _ _ _ h => h) (Or.inl ⟨by rfl, fun V hV => by (obtain ⟨hV1, hV2⟩ := hV; go_simp)⟩) hHeld ?_
            try simp only [Act.put, List.getElem_toArray, List.getElem_cons_succ, List.getElem_cons_zero, List.setIfInBounds_toArray, List.set_cons_zero, List.set_cons_succ]
            refine wpAnyH_take (i := 4) (v := .pointer (some ⟨gp, j * 257, none⟩)) rfl (by kernel_rfl) (by kernel_rfl) (by kernel_rfl) (fun _ _ _ h => h) (Or.inl ⟨by rfl, fun V hV => by (obtain ⟨hV1, hV2⟩ := hV; go_simp)⟩) hHeld ?_
            try simp only [Act.put, List.getElem_toArray, List.getElem_cons_succ, List.getElem_cons_zero, List.setIfInBounds_toArray, List.set_cons_zero, List.set_cons_succ]
            refine wpAnyH_take (i := 5) (v := .int .i64 ((K1 : Int) + 1)) rfl (by kernel_rfl) (by kernel_rfl) (by kernel_rfl) (fun _ _ _ h => h) (Or.inl ⟨by rfl, fun V hV => by (obtain ⟨hV1, hV2⟩ := hV; go_simp)⟩) hHeld ?_
            try simp only [Act.put, List.getElem_toArray, List.getElem_cons_succ, List.getElem_cons_zero, List.setIfInBounds_toArray, List.set_cons_zero, List.set_cons_succ]
            refine wpAnyH_take (i := 6) (v := .int .i64 (K1 : Int)) rfl (by kernel_rfl) (by kernel_rfl) (by kernel_rfl) (fun _ _ _ h => h) (Or.inl ⟨by rfl, fun V hV => by (obtain ⟨hV1, hV2⟩ := hV; go_simp)⟩) hHeld ?_
            try simp only [Act.put, List.getElem_toArray, List.getElem_cons_succ, List.getElem_cons_zero, List.setIfInBounds_toArray, List.set_cons_zero, List.set_cons_succ]
            refine wpAnyH_take (i := 7) (v := .slice (some ⟨gp, 0, none⟩) n cl) rfl (by kernel_rfl) (by kernel_rfl) (by kernel_rfl) (fun _ _ _ h => h) (Or.inl ⟨by rfl, fun V hV => by (obtain ⟨hV1, hV2⟩ := hV; go_simp)⟩) hHeld ?_
            try simp only [Act.put, List.getElem_toArray, List.getElem_cons_succ, List.getElem_cons_zero, List.setIfInBounds_toArray, List.set_cons_zero, List.set_cons_succ]
            refine wpAnyH_take (i := 8) (v := .int .i64 (j : Int)) rfl (by kernel_rfl) (by kernel_rfl) (by kernel_rfl) (fun _ _ _ h => h) (Or.inl ⟨by rfl, fun V hV => by (obtain ⟨hV1, hV2⟩ := hV; go_simp)⟩) hHeld ?_
            try simp only [Act.put, List.getElem_toArray, List.getElem_cons_succ, List.getElem_cons_zero, List.setIfInBounds_toArray, List.set_cons_zero, List.set_cons_succ]
            refine wpAnyH_take (i := 9) (v := .pointer (some ⟨gp, j * 257, none⟩)) rfl (by kernel_rfl) (by kernel_rfl) (by kernel_rfl) (fun _ _ _ h => h) (Or.inl ⟨by rfl, fun V hV => by (obtain ⟨hV1, hV2⟩ := hV; go_simp)⟩) hHeld ?_
            try simp only [Act.put, List.getElem_toArray, List.getElem_cons_succ, List.getElem_cons_zero, List.setIfInBounds_toArray, List.set_cons_zero, List.set_cons_succ]
            refine wpAnyH_take (i := 10) (v := .pointer (some ⟨gp, j * 257 + 1, none⟩)) rfl (by kernel_rfl) (by kernel_rfl) (by kernel_rfl) (fun _ _ _ h => h) (Or.inl ⟨by rfl, fun V hV => by (obtain ⟨hV1, hV2⟩ := hV; go_simp)⟩) hHeld ?_
            try simp only [Act.put, List.getElem_toArray, List.getElem_cons_succ, List.getElem_cons_zero, List.setIfInBounds_toArray, List.set_cons_zero, List.set_cons_succ]
            refine wpAnyH_take (i := 11) (v := .agg C.toArray) rfl (by kernel_rfl) (by kernel_rfl) (by kernel_rfl) (fun _ _ _ h => h) (yieldsIf_load_mid (by rfl) _ _ rfl _ _ rfl _ _ (fun V hV => hV.2) HU.out rfl HSz.out) hHeld ?_
            try simp only [Act.put, List.getElem_toArray, List.getElem_cons_succ, List.getElem_cons_zero, List.setIfInBounds_toArray, List.set_cons_zero, List.set_cons_succ]
            refine wpAnyH_take (i := 12) (v := .pointer (some ⟨g, K1 * 256, none⟩)) rfl (by kernel_rfl) (by kernel_rfl) (by kernel_rfl) (fun _ _ _ h => h) (Or.inl ⟨by rfl, fun V hV => by (obtain ⟨hV1, hV2⟩ := hV; go_simp)⟩) hHeld ?_
            try simp only [Act.put, List.getElem_toArray, List.getElem_cons_succ, List.getElem_cons_zero, List.setIfInBounds_toArray, List.set_cons_zero, List.set_cons_succ]
            refine wpAnyH_ready (rs := [13]) (by kernel_rfl) (by simp) ?_
            refine AllReadyH.cons rfl (fun K hK => ?_) AllReadyH.nil
            refine step_storePg (l := L j) (k := K1) HPb.out HK1c.out HLj.out _ _ (by rfl) (by rfl) (by rfl) (by first | rfl | (rw [HCe.out]; rfl)) ?_
            intro W8 hb8 ho8
            have HB8 := hideJ hb8
            have HG8 := hideJ (grown_only (grown_trans' HGq.out (World.grownBy_drew wr)) ho8 HGe.out)
            have HS8 : Hid (W8.cell? ⟨gp, j * 257, none⟩ = some (.int .i64 ((K1 : Int) + 1)) ∧ W8.rangeAt gp (j * 257 + 1) C) := HSo.out _ ho8
            clear hb8 ho8
            refine hK.out _ _ HS8.out (fun hHeld => ?_)
            clear hK K
            try simp only [Act.put, List.getElem_toArray, List.getElem_cons_succ, List.getElem_cons_zero]
            refine wpAnyH_done (by kernel_rfl) ?_ _
            have HAf : Hid (PgB W8 g count (aftL nw W N L (j + 1))) := by
              obtain ⟨cc, h1, h2, h3⟩ := HB8.out
              refine ⟨cc, h1, h2, fun a ha => ?_⟩
              have e : aftL nw W N L (j + 1) a = if a = K1 then L j else aftL nw W N L j a := by
                show (if a = N j - 1 then L j else aftL nw W N L j a) = _
                rw [HK1.out, Nat.add_sub_cancel]
              rw [e]
              exact h3 a ha
            go_wp2
            refine ⟨⟨j + 1, HJ.out, rfl, HAf.out, HG8.out⟩, ?_⟩
            simp only [intOf]; have := HJ.out; omega
        · obtain rfl : j = n := by omega
          go_wp2
          go_ret
          refine ⟨⟨some ⟨g, 0, none⟩, cap, rfl, fun _ => ?_⟩, HGq.out⟩
          obtain ⟨cc, h1, h2, h3⟩ := HPb1.out
          exact ⟨g, cc, rfl, h1, h3⟩
end Go.Proofs.Ytfcgjedanhmpiaa
