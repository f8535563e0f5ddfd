/- Pages, changed, as a row. -/
/- Pages, changed, as a row: after. -/
/- A disk between two commits, as a statement on journals sees it. -/
/- The walk of JournalFull. -/
import Derived.Test.YtfcgjedanhmpiaaKK
namespace Go.Proofs.Ytfcgjedanhmpiaa
open Go.ChangeShapes Go.WideShapes Go.ChangeAt Go.RowKit
open Go.ChangeMaps (setBlock)
set_option linter.unusedVariables false

/-- What was there, with zeros behind it; then the first pages laid over it. -/
def padL (nw : Nat) (W : Nat → List UInt8) : Nat → List UInt8 := fun k => if k < nw then W k else z256
def aftL (nw : Nat) (W : Nat → List UInt8) (N : Nat → Nat) (L : Nat → List UInt8) : Nat → Nat → List UInt8
  | 0 => padL nw W
  | j + 1 => fun k => if k = N j - 1 then L j else aftL nw W N L j k
theorem wp_run39 {ops : Array Oper} {rest : List Oper} {o : Oper} {a : Act} {Q : Exit → Act → World → Prop} {w : World} {v : Value} (hgd : o.guard = none) (s x : Operand) (ho : o.op = .call { callee := .builtin .append, args := #[s, x], argTypes := #[39, 39] })
    (hr : (Builtin.append_ #[39, 39] o.type #[a.eval s, a.eval x]).run Try.prog w = .ok v w) (hk : wpList Try.prog ops Q rest (a.put o.dst v) w) : wpList Try.prog ops Q (o :: rest) a w := by
  refine wpList_plain hgd fun K hK => ?_
  unfold Oper.wp execOp
  simp only [ho, resolve, invoke, builtin, Sem.run_bind, Sem.run_pure, Result.andThen_ok, List.map_toArray, List.map_cons, List.map_nil, hr]
  exact hK _ _ hk
/-- A row of pages is appended to a row of one's own. -/
theorem wp_app39 {ops : Array Oper} {rest : List Oper} {o : Oper} {a : Act} {Q : Exit → Act → World → Prop} {W : World} {base g0 m c : Nat} {p : Option Addr} {L : Nat → List UInt8} (hown : W.ownsRow base 24 256 (.slice (some ⟨g0, 0, none⟩) 0 0) 0 []) (hA : PgR W p m L) (hm : m ≤ 1000) (hbase : base ≤ W.heap.size) (s x : Operand)
    (hgd : o.guard = none) (ho : o.op = .call { callee := .builtin .append, args := #[s, x], argTypes := #[39, 39] }) (hs : a.eval s = .slice (some ⟨g0, 0, none⟩) 0 0) (hx : a.eval x = .slice p m c)
    (hk : ∀ g cap w', w'.ownsRow base 24 256 (.slice (some ⟨g, 0, none⟩) m cap) m (rowsC (fun j => bcs (L j)) m) → (∀ w0 : World, w0.heap.size ≤ base → w0.grownBy W none → w0.grownBy w' none) → wpList Try.prog ops Q rest (a.put o.dst (.slice (some ⟨g, 0, none⟩) m cap)) w') :
    wpList Try.prog ops Q (o :: rest) a W := by
  obtain ⟨i, z, hi, hz0, hz1, hz2, hz3⟩ := infoE24
  rcases Nat.eq_zero_or_pos m with rfl | hpos
  · refine wp_run39 (v := .slice (some ⟨g0, 0, none⟩) 0 0) hgd s x ho ?_ (hk g0 0 W hown (fun w0 _ h => h))
    rw [hs, hx]
    cases p <;> simp [Builtin.append_, run_underlying Try.underlying39, Builtin.lenOf, Builtin.firstCells, sizeOf, typeInfo, hi, storeCells, loadCells, loadCellsFrom]
  · obtain ⟨gp, cur, rfl, hb, hc⟩ := hA hpos
    have hC : ∀ j, j < m → ((fun j => bcs (L j)) j).length = 256 := fun j hj => by show (bcs (L j)).length = 256; rw [length_bcs, (hc j hj).1]
    have hlen := rowsC_length hC
    refine wpList_append_lies _ hgd s x 39 ho base 24 i z 256 256 Try.underlying39 hi hz0 hz1 hz2 hz3 (by omega) _ 0 [] hs hown ⟨gp, 0, none⟩ m c (rowsC (fun j => bcs (L j)) m) hx hlen (fun j u hj => ?_) (fun u hu => ?_) hpos (by simp only [maxLen]; omega) (by omega) hbase _ rfl ?_
    · have hjm : j < m * 256 := by have := (List.getElem?_eq_some_iff.1 hj).1; rw [hlen] at this; exact this
      have h1 := rowsC_get hC (j / 256) (j % 256) (by omega) (Nat.mod_lt _ (by omega))
      rw [show j / 256 * 256 + j % 256 = j by omega, hj] at h1
      rw [show (⟨gp, 0, none⟩ : Addr).add j = ⟨gp, j / 256 * 256 + j % 256, none⟩ by unfold Addr.add; split <;> simp_all; omega]
      exact (hc (j / 256) (by omega)).2 (j % 256) u h1.symm
    · obtain ⟨j, hj, rfl⟩ := List.getElem_of_mem hu
      have h1 := rowsC_get hC (j / 256) (j % 256) (by omega) (Nat.mod_lt _ (by omega))
      rw [show j / 256 * 256 + j % 256 = j by omega, List.getElem?_eq_getElem hj] at h1
      exact one_bcs (L (j / 256)) _ (List.mem_of_getElem? h1.symm)
    · intro g cap w' hown' hgr hgg hlt
      rw [Nat.zero_add, List.nil_append] at hown'
      have := hk g cap w' hown' (fun w0 h0 hW => ?_)
      · simpa using this
      · refine ⟨hgr.os.trans hW.os, hgr.tape.trans hW.tape, hgr.output.trans hW.output, Nat.le_trans hW.size hgr.size, fun k hk hn => ?_⟩
        have hkW : k < W.heap.size := Nat.lt_of_lt_of_le hk hW.size
        refine (hgr.block k hkW (fun e => ?_)).trans (hW.block k hk hn)
        have := (hown.lt k e.symm).1
        omega
theorem own_zero (W : World) {base : Nat} (hb : base ≤ W.heap.size) : (W.alloc (.cells #[] 24)).ownsRow base 24 256 (.slice (some ⟨W.heap.size, 0, none⟩) 0 0) 0 [] :=
  ⟨rfl, .inr ⟨W.heap.size, 0, #[], rfl, hb, heap_alloc_new W _, Nat.le_refl _, by simp [maxLen], rfl, rfl⟩⟩
/-- Pages in the block of a row. -/
def PgB (w : World) (g cnt : Nat) (L : Nat → List UInt8) : Prop := ∃ cur : Array Value, Blk w g cur 24 ∧ cnt * 256 ≤ cur.size ∧ ∀ k, k < cnt → (L k).length = 256 ∧ w.rangeAt g (k * 256) (bcs (L k))
theorem own_PgB {w : World} {base g k cap : Nat} {L : Nat → List UInt8} (hL : ∀ j, j < k → (L j).length = 256) (h : w.ownsRow base 24 256 (.slice (some ⟨g, 0, none⟩) k cap) k (rowsC (fun j => bcs (L j)) k)) : base ≤ g ∧ k ≤ cap ∧ PgB w g k L := by
  rcases h.2 with ⟨e, _⟩ | ⟨g', cap', cur, e, hbg, hg, hnc, hcm, hcs, htake⟩
  · cases e
  · cases e
    refine ⟨hbg, hnc, cur, hg, ?_, fun j hj => ⟨hL j hj, fun i v hv => ?_⟩⟩
    · rw [hcs]; exact Nat.mul_le_mul_right 256 hnc
    · have hC : ∀ j, j < k → ((fun j => bcs (L j)) j).length = 256 := fun j hj => by show (bcs (L j)).length = 256; rw [length_bcs, hL j hj]
      have hi : i < 256 := by have := (List.getElem?_eq_some_iff.1 hv).1; rw [length_bcs, hL j hj] at this; exact this
      rw [Blk.cell hg]
      have h1 := rowsC_get hC j i hj hi
      rw [← htake, List.getElem?_take, if_pos (by have : j * 256 + 256 ≤ k * 256 := by omega
                                                  omega)] at h1
      rw [← Array.getElem?_toList, h1]
      exact hv
end Go.Proofs.Ytfcgjedanhmpiaa

namespace Go.Proofs.Ytfcgjedanhmpiaa
open Go.ChangeShapes Go.WideShapes Go.ChangeAt Go.RowKit
open Go.ChangeMaps (setBlock)
set_option linter.unusedVariables false

def slen : Value → Nat
  | .slice _ n _ => n
  | _ => 0
theorem in_rows {k cnt s : Nat} (hk : k < cnt) (hs : cnt * 256 ≤ s) : k * 256 + 256 ≤ s := by
  have := Nat.mul_le_mul_right 256 (Nat.succ_le_of_lt hk)
  rw [Nat.succ_mul] at this
  exact Nat.le_trans this hs
theorem in_row {k j s : Nat} (hj : j < 256) (hs : k * 256 + 256 ≤ s) : k * 256 + j < s := by omega
theorem apart_rows {j k : Nat} (e : ¬ j = k) : j * 256 + 256 ≤ k * 256 ∨ k * 256 + 256 ≤ j * 256 := by omega
theorem step_storePg {ops : Array Oper} {o : Oper} {a : Act} {W : World} {K : Act → World → Prop} {Q : Exit → Act → World → Prop} {E : Prop} {g cnt k : Nat} {L : Nat → List UInt8} {l : List UInt8} (hB : PgB W g cnt L) (hk : k < cnt) (hl : l.length = 256) (x y : Operand)
    (hgd : o.guard = none) (ho : o.op = .store 24 x y) (hx : a.eval x = .pointer (some ⟨g, k * 256, none⟩)) (hy : a.eval y = .agg (bcs l).toArray)
    (h : ∀ W', PgB W' g cnt (fun j => if j = k then l else L j) → Only [g] W W' → K (a.put o.dst undef) W') : if Region.wanted o (yielded ops a.tmps) = true then Oper.wp Try.prog o a W K Q else E := by
  have hw : Region.wanted o (yielded ops a.tmps) = true := by simp [Region.wanted, hgd]
  rw [if_pos hw]
  obtain ⟨cur, hb, hsz, hc⟩ := hB
  have hbl : (bcs l).length = 256 := by rw [length_bcs, hl]
  have hin : k * 256 + 256 ≤ cur.size := in_rows hk hsz
  have hth : W.there g (k * 256) 256 := fun j hj => ⟨by rw [hb.cell, Array.getElem?_eq_getElem (in_row hj hin)]; rfl, hb.frozen _⟩
  refine wp_store_mid 24 x y ho g (k * 256) (bcs l).toArray hx hy (by rw [List.size_toArray, hbl]; exact hth) (size24 hl) (bytes_all l) ?_
  rw [List.toList_toArray]
  refine h _ ⟨_, setCells_blk (w := W) (bcs l) (k * 256) W cur hb (by rw [hbl]; exact hin), ?_, fun j hj => ?_⟩ (setCells_only g (bcs l) (k * 256) W)
  · rw [List.size_toArray, length_splice _ _ _ (by rw [hbl]; simpa using hin)]; simpa using hsz
  · show ((if j = k then l else L j) : List UInt8).length = 256 ∧ (W.setCells g (k * 256) (bcs l)).rangeAt g (j * 256) (bcs (if j = k then l else L j))
    by_cases e : j = k
    · rw [if_pos e, e]
      exact ⟨hl, World.rangeAt_setCells_same W g (k * 256) (bcs l) (by rw [hbl]; exact hth)⟩
    · rw [if_neg e]
      refine ⟨(hc j hj).1, World.rangeAt_setCells_apart (hc j hj).2 g (k * 256) (bcs l) (.inr ?_)⟩
      rw [length_bcs, (hc j hj).1, hbl]
      exact apart_rows e
theorem padL_len {nw : Nat} {W : Nat → List UInt8} (h : ∀ j, j < nw → (W j).length = 256) (j : Nat) : (padL nw W j).length = 256 := by
  unfold padL
  split
  · exact h j (by assumption)
  · exact z256_length
theorem pad_rows {nw : Nat} {W : Nat → List UInt8} : rowsC (fun j => bcs (W j)) nw = rowsC (fun j => bcs (padL nw W j)) nw := rowsC_congr (fun j hj => by show bcs (W j) = bcs (padL nw W j); unfold padL; rw [if_pos hj])
theorem pad_next {nw k : Nat} {W : Nat → List UInt8} (h : nw ≤ k) : rowsC (fun j => bcs (padL nw W j)) (k + 1) = rowsC (fun j => bcs (padL nw W j)) k ++ bcs z256 := by
  rw [rowsC]
  congr 1
  show bcs (padL nw W k) = _
  unfold padL
  rw [if_neg (by omega)]

set_option maxHeartbeats 8000000 in
set_option maxRecDepth 20000 in
theorem after_j (w : World) (pw pl : Option Addr) (nw cw n cl count : Nat) (W : Nat → List UInt8) (N : Nat → Nat) (L : Nat → List UInt8) (hW : PgR w pw nw W) (hWl : ∀ j, j < nw → (W j).length = 256) (hp : PgA w pl n (fun k => (N k : Int)) L) (hN : Rise count n N) (hcount : count ≤ 100) (hnw : nw ≤ 100) (hn : n ≤ 100) :
    Calls Try.prog 15 #[.slice pw nw cw, .int .i64 (count : Int), .slice pl n cl] w fun e w' => (∃ q c, e = .returned (.slice q count c) ∧ PgR w' q count (aftL nw W N L n)) ∧ w.grownBy w' none := by
  have HW := hideJ hW
  have HWl := hideJ hWl
  have HP := hideJ hp
  have HR := hideJ hN
  have HM := hideJ (And.intro hcount (And.intro hnw hn))
  have HOz := hideJ (own_zero w (base := w.heap.size) (Nat.le_refl _))
  have HGz := hideJ (World.grownBy_alloc w (.cells #[] 24) none)
  have HPw := hideJ (hW.grown (World.grownBy_alloc w (.cells #[] 24) none))
  clear hW hWl hp hN hcount hnw hn
  go_enter Try.func15, Try.ntmps15
  go_wp2_with (first
    | ((with_reducible refine atApp39 ?_); refine wp_app39 HOz.out HPw.out (by have := HM.out; omega) HGz.out.size _ _ (by rfl) (by rfl) (by rfl) (by rfl) ?_; intro g1 cap1 w1 hown1 hgr1; have HO1 := hideJ hown1; have HG1 := hideJ (hgr1 w (Nat.le_refl _) HGz.out); clear hown1 hgr1))
  go_loopw [7] (fun sv wr => ∃ (g cap k : Nat), nw ≤ k ∧ (k = nw ∨ k ≤ count) ∧ sv = .slice (some ⟨g, 0, none⟩) k cap ∧ wr.ownsRow w.heap.size 24 256 (.slice (some ⟨g, 0, none⟩) k cap) k (rowsC (fun j => bcs (padL nw W j)) k) ∧ w.grownBy wr none) (fun sv _ => count - slen sv)
  case atStart => exact ⟨g1, cap1, nw, Nat.le_refl _, .inl rfl, rfl, by rw [← pad_rows]; exact HO1.out, HG1.out⟩
  case round =>
    obtain ⟨g, cap, k, hk1, hk2, rfl, hown, hg⟩ := hrel
    have HOw := hideJ hown
    have HG := hideJ hg
    have HK := hideJ (And.intro hk1 hk2)
    clear hown hg hk1 hk2
    by_cases hlt : k < count
    · have l1 : (k : Int) < (count : Int) := by omega
      have HKc := hideJ hlt
      have HNx := hideJ (pad_next (W := W) HK.out.1)
      have HX6 : Hid ((bcs z256).toArray.size = 256 ∧ (bcs z256).length = 1 * 256) := ⟨by rw [List.size_toArray, length_bcs, z256_length], by rw [length_bcs, z256_length]⟩
      have HX1 := hideJ (one_bcs z256)
      go_wp2_with (first
        | ((with_reducible refine atBs39 ?_); refine wp_bs1 (X := (bcs z256).toArray) Try.underlying39 infoE24 (by omega) (by omega) HX6.out.1 _ (by rfl) (by rfl) (by first | rfl | (show Value.agg Try.zeroCells24 = _; rw [zc24])) ?_)
        | ((with_reducible refine atApp39 ?_); refine wp_appE (m := 1) Try.underlying39 infoE24 (by omega) (by omega) (bcs z256) HX6.out.2 (by omega) HX1.out HOw.out (by have := HM.out; have := HKc.out; omega) HG.out.size _ _ (by rfl) (by rfl) (by rfl) (by rfl) ?_; intro g6 cap6 w6 hown6 hap6; have HO6 := hideJ hown6; have HG6 := hideJ (hap6.grown w (Nat.le_refl _) HG.out); clear hown6 hap6))
      refine ⟨⟨g6, cap6, k + 1, by have := HK.out.1; omega, .inr HKc.out, rfl, by rw [HNx.out]; exact HO6.out, HG6.out⟩, ?_⟩
      simp only [slen]; have := HKc.out; omega
    · have l1 : ¬ (k : Int) < (count : Int) := by omega
      obtain ⟨hge, hkc, hpb⟩ := own_PgB (fun j _ => padL_len HWl.out j) HOw.out
      have l2 : (count : Int) ≤ (cap : Int) := by omega
      have l3 : (0 : Int) ≤ (count : Int) := by omega
      have HPb0 : Hid (PgB wr g count (padL nw W)) := by
        obtain ⟨cur, h1, h2, h3⟩ := hpb
        exact ⟨cur, h1, by omega, fun j hj => h3 j (by omega)⟩
      have HGe := hideJ hge
      clear hge hkc hpb
      go_wp2
      go_loopw [8] (fun iv wq => ∃ j : Nat, j ≤ n ∧ iv = .int .i64 (j : Int) ∧ PgB wq g count (aftL nw W N L j) ∧ w.grownBy wq none) (fun iv _ => n - (intOf iv).toNat)
      case atStart => exact ⟨0, Nat.zero_le _, rfl, HPb0.out, HG.out⟩
      case round =>
        obtain ⟨j, hj, rfl, hpb, hgq⟩ := hrel
        have HPb1 := hideJ hpb
        have HGq := hideJ hgq
        clear hpb hgq
        by_cases hjn : j < n
        · have m1 : (j : Int) < (n : Int) := by omega
          have m0 : (0 : Int) ≤ (j : Int) := by omega
          have hw1 : IntKind.i64.wrap ((j : Int) + 1) = (j : Int) + 1 := by have := HM.out; rw [IntKind.wrap_i64]; omega
          have HJ := hideJ hjn
          have hNj := HR.out.low j hjn
          obtain ⟨K1, hK1⟩ : ∃ K1, N j = K1 + 1 := ⟨N j - 1, by omega⟩
          have HK1c : Hid (K1 < count) := by show K1 < count; omega
          have HK1 := hideJ hK1
          have k1 : (K1 : Int) < (count : Int) := by omega
          have k0 : (0 : Int) ≤ (K1 : Int) := by omega
          have hwk : IntKind.i64.wrap (K1 : Int) = (K1 : Int) := by have := HM.out; rw [IntKind.wrap_i64]; omega
          obtain ⟨gp, cur, rfl, hbp, hcp⟩ := HP.out (by omega)
          have HLj := hideJ (hcp j hjn).1
          have hrj := (hcp j hjn).2
          have HSa : Hid (w.cell? ⟨gp, j * 257, none⟩ = some (.int .i64 ((K1 : Int) + 1)) ∧ w.rangeAt gp (j * 257 + 1) (bcs (L j))) := by
            refine ⟨?_, fun a v hv => ?_⟩
            · have := hrj 0 (.int .i64 (N j : Int)) rfl
              rw [hK1] at this
              simpa using this
            · have := hrj (a + 1) v (by simpa [pcl] using hv)
              rw [show j * 257 + 1 + a = j * 257 + (a + 1) by omega]
              exact this
          have hgp : gp < w.heap.size := hbp.lt
          have HSg : Hid (∀ V, w.grownBy V none → V.cell? ⟨gp, j * 257, none⟩ = some (.int .i64 ((K1 : Int) + 1)) ∧ V.rangeAt gp (j * 257 + 1) (bcs (L j))) := fun V hV => ⟨grown_cell hV HSa.out.1, fun a v hv => grown_cell hV (HSa.out.2 a v hv)⟩
          have HSz : Hid ((Try.prog.info? 24).map (·.size) = some (bcs (L j)).length) := by show _ = _; rw [length_bcs, HLj.out]; exact info24
          have HU := hideJ Try.underlying24
          have HS0 := hideJ (HSg.out wr.drew (grown_trans' HGq.out (World.grownBy_drew wr)))
          have HSo : Hid (∀ V, Only [g] wr.drew V → V.cell? ⟨gp, j * 257, none⟩ = some (.int .i64 ((K1 : Int) + 1)) ∧ V.rangeAt gp (j * 257 + 1) (bcs (L j))) := fun V ho => HSg.out V (grown_only (grown_trans' HGq.out (World.grownBy_drew wr)) ho HGe.out)
          have HPb : Hid (PgB wr.drew g count (aftL nw W N L j)) := by
            obtain ⟨cc, h1, h2, h3⟩ := HPb1.out
            exact ⟨cc, h1, h2, fun a ha => h3 a ha⟩
          go_upto_region 8 with fail
          clear hbp hcp hrj hgp hNj hK1
          generalize hC : bcs (L j) = C at HS0 HSo HSz
          have HCe := hideJ hC.symm
          clear hC
          · skip
            refine wp_region_held_drew (S := fun V => V.cell? ⟨gp, j * 257, none⟩ = some (.int .i64 ((K1 : Int) + 1)) ∧ V.rangeAt gp (j * 257 + 1) C) (by kernel_rfl) (HS0.out) (fun hHeld => ?_)
            refine wpAnyH_take (i := 0) (v := .slice (some ⟨g, 0, none⟩) count cap) rfl (by kernel_rfl) (by kernel_rfl) (by kernel_rfl) (fun _ _ _ h => h) (Or.inl ⟨by rfl, fun V hV => by (obtain ⟨hV1, hV2⟩ := hV; go_simp)⟩) hHeld ?_
            try simp only [Act.put, List.getElem_toArray, List.getElem_cons_zero, List.setIfInBounds_toArray, List.set_cons_zero, List.set_cons_succ]
            refine wpAnyH_take (i := 1) (v := .slice (some ⟨gp, 0, none⟩) n cl) rfl (by kernel_rfl) (by kernel_rfl) (by kernel_rfl) (fun _ _ _ h => h) (Or.inl ⟨by rfl, fun V hV => by (obtain ⟨hV1, hV2⟩ := hV; go_simp)⟩) hHeld ?_
            try simp only [Act.put, List.getElem_toArray, List.getElem_cons_succ, List.getElem_cons_zero, List.setIfInBounds_toArray, List.set_cons_zero, List.set_cons_succ]
            refine wpAnyH_take (i := 2) (v := .int .i64 (j : Int)) rfl (by kernel_rfl) (by kernel_rfl) (by kernel_rfl) (fun _ _ _ h => h) (Or.inl ⟨by rfl, fun V hV => by (obtain ⟨hV1, hV2⟩ := hV; go_simp)⟩) hHeld ?_
            try simp only [Act.put, List.getElem_toArray, List.getElem_cons_succ, List.getElem_cons_zero, List.setIfInBounds_toArray, List.set_cons_zero, List.set_cons_succ]
            refine wpAnyH_take (i := 3) (v := .pointer (some ⟨gp, j * 257, none⟩)) rfl (by kernel_rfl) (by kernel_rfl) (by kernel_rfl) (fun _ _ _ h => h) (Or.inl ⟨by rfl, fun V hV => by (obtain ⟨hV1, hV2⟩ := hV; go_simp)⟩) hHeld ?_
            try simp only [Act.put, List.getElem_toArray, List.getElem_cons_succ, List.getElem_cons_zero, List.setIfInBounds_toArray, List.set_cons_zero, List.set_cons_succ]
            refine wpAnyH_take (i := 4) (v := .pointer (some ⟨gp, j * 257, none⟩)) rfl (by kernel_rfl) (by kernel_rfl) (by kernel_rfl) (fun _ _ _ h => h) (Or.inl ⟨by rfl, fun V hV => by (obtain ⟨hV1, hV2⟩ := hV; go_simp)⟩) hHeld ?_
            try simp only [Act.put, List.getElem_toArray, List.getElem_cons_succ, List.getElem_cons_zero, List.setIfInBounds_toArray, List.set_cons_zero, List.set_cons_succ]
            refine wpAnyH_take (i := 5) (v := .int .i64 ((K1 : Int) + 1)) rfl (by kernel_rfl) (by kernel_rfl) (by kernel_rfl) (fun _ _ _ h => h) (Or.inl ⟨by rfl, fun V hV => by (obtain ⟨hV1, hV2⟩ := hV; go_simp)⟩) hHeld ?_
            try simp only [Act.put, List.getElem_toArray, List.getElem_cons_succ, List.getElem_cons_zero, List.setIfInBounds_toArray, List.set_cons_zero, List.set_cons_succ]
            refine wpAnyH_take (i := 6) (v := .int .i64 (K1 : Int)) rfl (by kernel_rfl) (by kernel_rfl) (by kernel_rfl) (fun _ _ _ h => h) (Or.inl ⟨by rfl, fun V hV => by (obtain ⟨hV1, hV2⟩ := hV; go_simp)⟩) hHeld ?_
            try simp only [Act.put, List.getElem_toArray, List.getElem_cons_succ, List.getElem_cons_zero, List.setIfInBounds_toArray, List.set_cons_zero, List.set_cons_succ]
            refine wpAnyH_take (i := 7) (v := .slice (some ⟨gp, 0, none⟩) n cl) rfl (by kernel_rfl) (by kernel_rfl) (by kernel_rfl) (fun _ _ _ h => h) (Or.inl ⟨by rfl, fun V hV => by (obtain ⟨hV1, hV2⟩ := hV; go_simp)⟩) hHeld ?_
            try simp only [Act.put, List.getElem_toArray, List.getElem_cons_succ, List.getElem_cons_zero, List.setIfInBounds_toArray, List.set_cons_zero, List.set_cons_succ]
            refine wpAnyH_take (i := 8) (v := .int .i64 (j : Int)) rfl (by kernel_rfl) (by kernel_rfl) (by kernel_rfl) (fun _ _ _ h => h) (Or.inl ⟨by rfl, fun V hV => by (obtain ⟨hV1, hV2⟩ := hV; go_simp)⟩) hHeld ?_
            try simp only [Act.put, List.getElem_toArray, List.getElem_cons_succ, List.getElem_cons_zero, List.setIfInBounds_toArray, List.set_cons_zero, List.set_cons_succ]
            refine wpAnyH_take (i := 9) (v := .pointer (some ⟨gp, j * 257, none⟩)) rfl (by kernel_rfl) (by kernel_rfl) (by kernel_rfl) (fun _ _ _ h => h) (Or.inl ⟨by rfl, fun V hV => by (obtain ⟨hV1, hV2⟩ := hV; go_simp)⟩) hHeld ?_
            try simp only [Act.put, List.getElem_toArray, List.getElem_cons_succ, List.getElem_cons_zero, List.setIfInBounds_toArray, List.set_cons_zero, List.set_cons_succ]
            refine wpAnyH_take (i := 10) (v := .pointer (some ⟨gp, j * 257 + 1, none⟩)) rfl (by kernel_rfl) (by kernel_rfl) (by kernel_rfl) (fun _ _ _ h => h) (Or.inl ⟨by rfl, fun V hV => by (obtain ⟨hV1, hV2⟩ := hV; go_simp)⟩) hHeld ?_
            try simp only [Act.put, List.getElem_toArray, List.getElem_cons_succ, List.getElem_cons_zero, List.setIfInBounds_toArray, List.set_cons_zero, List.set_cons_succ]
            refine wpAnyH_take (i := 11) (v := .agg C.toArray) rfl (by kernel_rfl) (by kernel_rfl) (by kernel_rfl) (fun _ _ _ h => h) (yieldsIf_load_mid (by rfl) _ _ rfl _ _ rfl _ _ (fun V hV => hV.2) HU.out rfl HSz.out) hHeld ?_
            try simp only [Act.put, List.getElem_toArray, List.getElem_cons_succ, List.getElem_cons_zero, List.setIfInBounds_toArray, List.set_cons_zero, List.set_cons_succ]
            refine wpAnyH_take (i := 12) (v := .pointer (some ⟨g, K1 * 256, none⟩)) rfl (by kernel_rfl) (by kernel_rfl) (by kernel_rfl) (fun _ _ _ h => h) (Or.inl ⟨by rfl, fun V hV => by (obtain ⟨hV1, hV2⟩ := hV; go_simp)⟩) hHeld ?_
            try simp only [Act.put, List.getElem_toArray, List.getElem_cons_succ, List.getElem_cons_zero, List.setIfInBounds_toArray, List.set_cons_zero, List.set_cons_succ]
            refine wpAnyH_ready (rs := [13]) (by kernel_rfl) (by simp) ?_
            refine AllReadyH.cons rfl (fun K hK => ?_) AllReadyH.nil
            refine step_storePg (l := L j) (k := K1) HPb.out HK1c.out HLj.out _ _ (by rfl) (by rfl) (by rfl) (by first | rfl | (rw [HCe.out]; rfl)) ?_
            intro W8 hb8 ho8
            have HB8 := hideJ hb8
            have HG8 := hideJ (grown_only (grown_trans' HGq.out (World.grownBy_drew wr)) ho8 HGe.out)
            have HS8 : Hid (W8.cell? ⟨gp, j * 257, none⟩ = some (.int .i64 ((K1 : Int) + 1)) ∧ W8.rangeAt gp (j * 257 + 1) C) := HSo.out _ ho8
            clear hb8 ho8
            refine hK.out _ _ HS8.out (fun hHeld => ?_)
            clear hK K
            try simp only [Act.put, List.getElem_toArray, List.getElem_cons_succ, List.getElem_cons_zero]
            refine wpAnyH_done (by kernel_rfl) ?_ _
            have HAf : Hid (PgB W8 g count (aftL nw W N L (j + 1))) := by
              obtain ⟨cc, h1, h2, h3⟩ := HB8.out
              refine ⟨cc, h1, h2, fun a ha => ?_⟩
              have e : aftL nw W N L (j + 1) a = if a = K1 then L j else aftL nw W N L j a := by
                show (if a = N j - 1 then L j else aftL nw W N L j a) = _
                rw [HK1.out, Nat.add_sub_cancel]
              rw [e]
              exact h3 a ha
            go_wp2
            refine ⟨⟨j + 1, HJ.out, rfl, HAf.out, HG8.out⟩, ?_⟩
            simp only [intOf]; have := HJ.out; omega
        · obtain rfl : j = n := by omega
          go_wp2
          go_ret
          refine ⟨⟨some ⟨g, 0, none⟩, cap, rfl, fun _ => ?_⟩, HGq.out⟩
          obtain ⟨cc, h1, h2, h3⟩ := HPb1.out
          exact ⟨g, cc, rfl, h1, h3⟩
end Go.Proofs.Ytfcgjedanhmpiaa

namespace Go.Proofs.Ytfcgjedanhmpiaa
open Go.ChangeShapes Go.WideShapes Go.ChangeAt Go.RowKit
open Go.ChangeMaps (setBlock)
set_option linter.unusedVariables false

theorem aftL_out {nw count n : Nat} {W : Nat → List UInt8} {N : Nat → Nat} {L : Nat → List UInt8} (hN : Rise count n N) {k : Nat} : ∀ m, m ≤ n → (∀ j, j < m → N j ≠ k + 1) → aftL nw W N L m k = padL nw W k
  | 0, _, _ => rfl
  | m + 1, hm, h => by
    show (if k = N m - 1 then L m else aftL nw W N L m k) = _
    have h1 := h m (Nat.lt_succ_self m)
    have h2 := (hN.low m (by omega)).1
    rw [if_neg (by omega)]
    exact aftL_out hN m (by omega) (fun j hj => h j (by omega))
theorem aftL_in {nw count n : Nat} {W : Nat → List UInt8} {N : Nat → Nat} {L : Nat → List UInt8} (hN : Rise count n N) {j : Nat} : ∀ m, m ≤ n → j < m → aftL nw W N L m (N j - 1) = L j
  | 0, _, h => by omega
  | m + 1, hm, h => by
    show (if N j - 1 = N m - 1 then L m else aftL nw W N L m (N j - 1)) = _
    by_cases e : j = m
    · subst e; rw [if_pos rfl]
    · have h1 := hN.up j m (by omega) (by omega)
      have h2 := (hN.low j (by omega)).1
      rw [if_neg (by omega)]
      exact aftL_in hN m (by omega) (by omega)
def pgF (db : List UInt8) : Nat → List UInt8 := fun k => pgL db (k + 1)
theorem aft_is {db db' : List UInt8} {old count n : Nat} {N : Nat → Nat} {L : Nat → List UInt8} (h : Aft db db' count n N L) (hdb : db.length = 256 * old) (hN : Rise count n N) (hall : ∀ p, old < p → p ≤ count → ∃ j, j < n ∧ N j = p) {k : Nat} (hk : k < count) : pgF db' k = aftL old (pgF db) N L n k := by
  rcases h.pgs (k + 1) (by omega) (by omega) with ⟨j, h1, h2, h3⟩ | ⟨h1, h2⟩
  · have := aftL_in (nw := old) (W := pgF db) (L := L) hN n (Nat.le_refl _) h1
    rw [h2, Nat.add_sub_cancel] at this
    rw [this]; exact h3
  · have ho : k + 1 ≤ old := by
      rcases Nat.lt_or_ge old (k + 1) with c | c
      · obtain ⟨j, h3, h4⟩ := hall (k + 1) c (by omega)
        exact absurd h4 (h1 j h3)
      · exact c
    rw [aftL_out hN n (Nat.le_refl _) h1]
    unfold padL
    rw [if_pos (by omega)]
    exact h2 (by omega)
theorem below_cell {w V : World} (hb : Below w.heap.size w V) {a : Addr} {v : Value} (h : w.cell? a = some v) : V.cell? a = some v := by
  rw [World.cell?_of_block (w := w) (hb.block a.block (World.block_lt_of_cell? w a h))]; exact h
/-- A disk behind some commits. -/
structure Jst (w V : World) (r : Int) (D : DS) (k old : Nat) : Prop where
  rep : ∃ who, Rep V w.heap.size (w.heap.size + 1) D who
  ji : JI r D k
  bel : Below w.heap.size w V
  len : (seenOf D nmD).length = 256 * old
  few : old ≤ 15
  cold : hdw (seenOf D nmJ) 0 = 0
theorem Jst.grown {w V V' : World} {r : Int} {D : DS} {k old : Nat} (h : Jst w V r D k old) (hg : V.grownBy V' none) : Jst w V' r D k old :=
  { h with rep := h.rep.imp fun who R => R.keep hg, bel := h.bel.trans (grown_below h.bel.size hg) }
theorem jst_new (w : World) (r : Int) (h0 : 0 ≤ r) : Calls Try.prog 12 #[.int .i64 r] w fun e w' => e = .returned (.pointer (some ⟨w.heap.size + 1, 0, none⟩)) ∧ Jst w w' r (DS.fresh w.heap.size r) 0 0 :=
  Calls.mono (new_any w r h0) (fun e w' h => ⟨h.1, ⟨h.2.2, JI.fresh _ _, grown_below (Nat.le_refl _) h.2.1, rfl, by omega, cold0⟩⟩)
theorem jst_tell (w V : World) (r : Int) (D : DS) (k old : Nat) (h : Jst w V r D k old) : Calls Try.prog 13 #[.pointer (some ⟨w.heap.size + 1, 0, none⟩)] V fun e w' => (∃ q c, e = .returned (.slice q old c) ∧ PgR w' q old (pgF (seenOf D nmD))) ∧ V.grownBy w' none := by
  obtain ⟨who, R⟩ := h.rep
  exact tell_j V _ _ D who R h.ji old h.len
theorem jst_hot (w V : World) (r : Int) (D : DS) (k old : Nat) (h : Jst w V r D k old) : Calls Try.prog 10 #[.pointer (some ⟨w.heap.size + 1, 0, none⟩)] V fun e w' => e = .returned (.bool false) ∧ V.grownBy w' none := by
  obtain ⟨who, R⟩ := h.rep
  exact hot_j V _ _ D who R h.ji false (by rw [h.cold]; rfl)
theorem pgF_len {db : List UInt8} {old : Nat} (h : db.length = 256 * old) (j : Nat) (hj : j < old) : (pgF db j).length = 256 := pgL_length (by omega) (by omega)
structure Jcm (w V w' : World) (r : Int) (D : DS) (k old count n : Nat) (N : Nat → Nat) (L : Nat → List UInt8) (x : Int) (D' : DS) (k' old' : Nat) : Prop where
  st : Jst w w' r D' k' old'
  le : k' ≤ k + 100
  rows : ∀ q m M, PgR V q m M → PgR w' q m M
  pags : ∀ q m T P, PgA V q m T P → PgA w' q m T P
  how : (x = 0 ∧ old' = count ∧ ∀ j, j < count → pgF (seenOf D' nmD) j = aftL old (pgF (seenOf D nmD)) N L n j) ∨ (x = 5 ∧ old' = old ∧ pgF (seenOf D' nmD) = pgF (seenOf D nmD))
theorem jst_commit (w V : World) (r : Int) (D : DS) (k old : Nat) (h : Jst w V r D k old) (hk : k ≤ 10000) (count : Nat) (hcount : count ≤ 15) (nb : Nat) (B : Nat → UInt8) (p : Option Addr) (n cap : Nat) (hn : n = (selL old nb B count).length) (hp : PgA V p n (fun j => (selN old nb B count j : Int)) (selP old nb B count)) :
    Calls Try.prog 8 #[.pointer (some ⟨w.heap.size + 1, 0, none⟩), .int .i64 (count : Int), .slice p n cap] V fun e w' => ∃ x : Int, e = .returned (.int .i64 x) ∧ ∃ D' k' old', Jcm w V w' r D k old count n (selN old nb B count) (selP old nb B count) x D' k' old' := by
  obtain ⟨who, R⟩ := h.rep
  have hrise : Rise count n (selN old nb B count) := by rw [hn]; exact selL_rise old nb B count
  have hall : ∀ p, old < p → p ≤ count → ∃ j, j < n ∧ selN old nb B count j = p := fun p h1 h2 => by rw [hn]; exact selL_all h1 h2
  refine (commit_any V _ _ D who R h.ji count old h.len h.few hcount p n cap (selN old nb B count) (selP old nb B count) hp (fun j _ => fullL_length _) (by rw [hn]; exact Nat.le_trans (selL_len _ _ _ _) hcount) hk (by rw [hn]; exact selL_may (by omega)) hrise hall h.cold).mono ?_
  rintro e w' ⟨x, rfl, D', who', i', hm, hj, hi, hc⟩
  refine ⟨x, rfl, ?_⟩
  rcases hc.how with ⟨rfl, ha⟩ | ⟨rfl, he⟩
  · exact ⟨D', i', count, ⟨⟨who', hm.rep⟩, hj, h.bel.trans (hm.mv.below R), ha.len, hcount, hc.cold⟩, hi, fun q m M hq => hq.moved R hm, fun q m T P hq => hq.moved R hm, .inl ⟨rfl, rfl, fun j hj => aft_is ha h.len hrise hall hj⟩⟩
  · exact ⟨D', i', old, ⟨⟨who', hm.rep⟩, hj, h.bel.trans (hm.mv.below R), by rw [he]; exact h.len, h.few, hc.cold⟩, hi, fun q m M hq => hq.moved R hm, fun q m T P hq => hq.moved R hm, .inr ⟨rfl, rfl, by rw [he]⟩⟩
/-- Changes that were handed in. -/
def ChA (w : World) (p : Option Addr) (n : Nat) (cv : Nat → Int) (pb : Nat → Option Addr) (nb cb : Nat → Nat) (B : Nat → Nat → UInt8) : Prop := 0 < n → ∃ b o, p = some ⟨b, o, none⟩ ∧ ∀ i, i < n → w.cell? ⟨b, o + i * 2, none⟩ = some (.int .i64 (cv i)) ∧ w.cell? ⟨b, o + i * 2 + 1, none⟩ = some (.slice (pb i) (nb i) (cb i)) ∧ ByA w (pb i) (nb i) (B i)
theorem ChA.later {w V : World} {p : Option Addr} {n : Nat} {cv : Nat → Int} {pb : Nat → Option Addr} {nb cb : Nat → Nat} {B : Nat → Nat → UInt8} (h : ChA w p n cv pb nb cb B) (hb : Below w.heap.size w V) : ChA V p n cv pb nb cb B := fun h0 => by
  obtain ⟨b, o, e, hc⟩ := h h0
  refine ⟨b, o, e, fun i hi => ?_⟩
  obtain ⟨h1, h2, h3⟩ := hc i hi
  refine ⟨below_cell hb h1, below_cell hb h2, fun hn => ?_⟩
  obtain ⟨b', o', e', h4⟩ := h3 hn
  exact ⟨b', o', e', fun j hj => below_cell hb (h4 j hj)⟩
end Go.Proofs.Ytfcgjedanhmpiaa

namespace Go.Proofs.Ytfcgjedanhmpiaa
open Go.ChangeShapes Go.WideShapes Go.ChangeAt Go.RowKit
open Go.ChangeMaps (setBlock)
set_option linter.unusedVariables false

set_option maxHeartbeats 8000000 in
set_option maxRecDepth 20000 in
theorem full_walk (w : World) (p : Option Addr) (nl cl : Nat) (room : Int) (cv : Nat → Int) (pb : Nat → Option Addr) (nb cb : Nat → Nat) (B : Nat → Nat → UInt8) (hch : ChA w p nl cv pb nb cb B) :
    Calls Try.prog 5 #[.slice p nl cl, .int .i64 room] w fun e w' => e = .returned (.bool true) ∧ Below w.heap.size w w' := by
  have HAw : Hid (∀ V, Below w.heap.size w V → Calls Try.prog 11 #[] V fun e w' => e = .returned (.bool true) ∧ Below w.heap.size w w') := fun V hb => Calls.mono (awake_j V) (fun e w' h => ⟨h.1, hb.trans (h.2.mono hb.size)⟩)
  by_cases hbig : 10 < nl
  · have l1 : (10 : Int) < (nl : Int) := by omega
    clear hch
    have HB0 := hideJ (Below.refl w.heap.size w)
    go_enter Try.func5, Try.ntmps5
    go_wp2_with (go_at_call 11; (with_reducible refine Calls.mono (HAw.out _ HB0.out) ?_); rintro e w1 ⟨rfl, hb⟩; have HB1 := hideJ hb; clear hb)
    go_ret
    exact ⟨rfl, HB1.out⟩
  · have l1 : ¬ (10 : Int) < (nl : Int) := by omega
    obtain ⟨r, hr, hrr⟩ := and_small room 16383 (by omega)
    have hrr' : bits .and .i64 room 16383 = (r : Int) := hrr
    have HNw := hideJ (jst_new w (r : Int) (by omega))
    have HCh := hideJ hch
    have HN := hideJ (show nl ≤ 10 by omega)
    clear hch hrr hr hbig
    go_enter Try.func5, Try.ntmps5
    go_wp2_with (go_at_call 12; (with_reducible refine Calls.mono HNw.out ?_); rintro e w1 ⟨rfl, hs⟩; have HS1 := hideJ hs; clear hs)
    clear l1 hrr'
    go_loopw [6] (fun iv wr => ∃ (i : Nat) (D : DS) (k old : Nat), i ≤ nl ∧ iv = .int .i64 (i : Int) ∧ Jst w wr (r : Int) D k old ∧ k ≤ 100 * i) (fun iv _ => nl - (intOf iv).toNat)
    case atStart => exact ⟨0, _, 0, 0, Nat.zero_le _, rfl, HS1.out, Nat.zero_le _⟩
    case round =>
      obtain ⟨i, D, k, old, hi, rfl, hs, hk⟩ := hrel
      have HS := hideJ hs
      have HK := hideJ hk
      clear hs hk
      by_cases hlt : i < nl
      · have m1 : (i : Int) < (nl : Int) := by omega
        have m0 : (0 : Int) ≤ (i : Int) := by omega
        have hw1 : IntKind.i64.wrap ((i : Int) + 1) = (i : Int) + 1 := by have := HN.out; rw [IntKind.wrap_i64]; omega
        have HJ := hideJ hlt
        have HTl := hideJ (fun V h => jst_tell w V (r : Int) D k old h)
        obtain ⟨b, o, rfl, hcells⟩ := HCh.out (by omega)
        have HCl := hideJ (fun V (hb : Below w.heap.size w V) => And.intro (below_cell hb (hcells i hlt).1) (below_cell hb (hcells i hlt).2.1))
        have HBy : Hid (∀ V, Below w.heap.size w V → ByA V (pb i) (nb i) (B i)) := fun V hb hn => by
          obtain ⟨b', o', e', h4⟩ := (hcells i hlt).2.2 hn
          exact ⟨b', o', e', fun j hj => below_cell hb (h4 j hj)⟩
        obtain ⟨count, hcount, hcv⟩ := and_small (cv i) 15 (by omega)
        have HPg := hideJ (fun V hb => pages_j V (cv i) old count (nb i) (cb i) hcv hcount HS.out.few (pb i) (B i) (HBy.out V hb))
        obtain ⟨n, hn⟩ : ∃ n, n = (selL old (nb i) (B i) count).length := ⟨_, rfl⟩
        rw [← hn] at HPg
        have HCm := hideJ (fun V h q c hp => jst_commit w V (r : Int) D k old h (by have := HK.out; have := HN.out; have := HJ.out; omega) count hcount (nb i) (B i) q n c hn hp)
        have HR : Hid (Rise count n (selN old (nb i) (B i) count)) := by show Rise _ _ _; rw [hn]; exact selL_rise old (nb i) (B i) count
        have HNn : Hid (n ≤ 15) := by show n ≤ 15; rw [hn]; exact Nat.le_trans (selL_len _ _ _ _) hcount
        have HCo := hideJ hcount
        have hc0 := (HCl.out wr HS.out.bel).1
        clear hcells hcv hn hcount hc0
        generalize selN old (nb i) (B i) count = N at HPg HCm HR
        generalize selP old (nb i) (B i) count = L at HPg HCm
        go_upto_region 10 with (first
          | (go_at_call 13; (with_reducible refine Calls.mono (HTl.out _ HS.out) ?_); rintro e w2 ⟨⟨q2, c2, rfl, hp2⟩, hg⟩; have HP2 := hideJ hp2; have HS2 := hideJ (HS.out.grown hg); have hc1 := (HCl.out w2 HS2.out.bel).1; have hc2 := (HCl.out w2 HS2.out.bel).2; clear hg hp2)
          | (go_at_call 14; (with_reducible refine Calls.mono (HPg.out _ HS2.out.bel) ?_); rintro e w3 ⟨⟨q3, c3, rfl, hp3⟩, hg⟩; have HP3 := hideJ hp3; have HQ3 := hideJ (HP2.out.grown hg); have HS3 := hideJ (HS2.out.grown hg); clear hg hp3 hc1 hc2)
          | (go_at_call 8; (with_reducible refine Calls.mono (HCm.out _ HS3.out _ _ HP3.out) ?_); rintro e w4 ⟨x, rfl, D4, k4, old4, hc4⟩; have HC4 := hideJ hc4; clear hc4))
        have HTl4 := hideJ (fun V h => jst_tell w V (r : Int) D4 k4 old4 h)
        have HHt4 := hideJ (fun V h => jst_hot w V (r : Int) D4 k4 old4 h)
        have HS4 := hideJ HC4.out.st
        have HQ4 := hideJ (HC4.out.rows _ _ _ HQ3.out)
        have HP4 := hideJ (HC4.out.pags _ _ _ _ HP3.out)
        have HK4 : Hid (k4 ≤ 100 * (i + 1)) := by show k4 ≤ 100 * (i + 1); have := HC4.out.le; have := HK.out; omega
        rcases HC4.out.how with ⟨rfl, rfl, hpg⟩ | ⟨rfl, rfl, hpg⟩
        · have HAf := hideJ (fun V hq hp => after_j V q2 q3 old c2 n c3 old4 (pgF (seenOf D nmD)) N L hq (pgF_len HS.out.len) hp HR.out (by have := HCo.out; omega) (by have := HS.out.few; omega) (by have := HNn.out; omega))
          have HSm : Hid (∀ V qa ca qb cb', PgR V qa old4 (pgF (seenOf D4 nmD)) → PgR V qb old4 (aftL old (pgF (seenOf D nmD)) N L n) → Calls Try.prog 20 #[.slice qa old4 ca, .slice qb old4 cb'] V fun e w' => e = .returned (.bool true) ∧ V.grownBy w' none) := fun V qa ca qb cb' ha hb => same_j V qa qb old4 old4 ca cb' _ _ ha hb (by have := HCo.out; omega) true ⟨fun _ => ⟨rfl, hpg⟩, fun _ => rfl⟩
          clear hpg
          go_wp2_with (first
            | (go_at_call 15; (with_reducible refine Calls.mono (HAf.out _ HQ4.out HP4.out) ?_); rintro e w5 ⟨⟨q5, c5, rfl, hp5⟩, hg⟩; have HP5 := hideJ hp5; have HS5 := hideJ (HS4.out.grown hg); clear hg hp5)
            | (go_at_call 13; (with_reducible refine Calls.mono (HTl4.out _ HS5.out) ?_); rintro e w6 ⟨⟨q6, c6, rfl, hp6⟩, hg⟩; have HP6 := hideJ hp6; have HW6 := hideJ (HP5.out.grown hg); have HS6 := hideJ (HS5.out.grown hg); clear hg hp6)
            | (go_at_call 20; (with_reducible refine Calls.mono (HSm.out _ _ _ _ _ HP6.out HW6.out) ?_); rintro e w7 ⟨rfl, hg⟩; have HS7 := hideJ (HS6.out.grown hg); clear hg)
            | (go_at_call 10; (with_reducible refine Calls.mono (HHt4.out _ HS7.out) ?_); rintro e w8 ⟨rfl, hg⟩; have HS8 := hideJ (HS7.out.grown hg); clear hg))
          refine ⟨⟨i + 1, D4, k4, old4, HJ.out, rfl, HS8.out, HK4.out⟩, ?_⟩
          simp only [intOf]; have := HJ.out; omega
        · have HSm : Hid (∀ V qa ca qb cb', PgR V qa old4 (pgF (seenOf D4 nmD)) → PgR V qb old4 (pgF (seenOf D nmD)) → Calls Try.prog 20 #[.slice qa old4 ca, .slice qb old4 cb'] V fun e w' => e = .returned (.bool true) ∧ V.grownBy w' none) := fun V qa ca qb cb' ha hb => same_j V qa qb old4 old4 ca cb' _ _ ha hb (by have := HS.out.few; omega) true ⟨fun _ => ⟨rfl, fun j _ => by rw [hpg]⟩, fun _ => rfl⟩
          clear hpg
          go_wp2_with (first
            | (go_at_call 13; (with_reducible refine Calls.mono (HTl4.out _ HS4.out) ?_); rintro e w6 ⟨⟨q6, c6, rfl, hp6⟩, hg⟩; have HP6 := hideJ hp6; have HW6 := hideJ (HQ4.out.grown hg); have HS6 := hideJ (HS4.out.grown hg); clear hg hp6)
            | (go_at_call 20; (with_reducible refine Calls.mono (HSm.out _ _ _ _ _ HP6.out HW6.out) ?_); rintro e w7 ⟨rfl, hg⟩; have HS7 := hideJ (HS6.out.grown hg); clear hg)
            | (go_at_call 10; (with_reducible refine Calls.mono (HHt4.out _ HS7.out) ?_); rintro e w8 ⟨rfl, hg⟩; have HS8 := hideJ (HS7.out.grown hg); clear hg))
          refine ⟨⟨i + 1, D4, k4, old4, HJ.out, rfl, HS8.out, HK4.out⟩, ?_⟩
          simp only [intOf]; have := HJ.out; omega
      · obtain rfl : i = nl := by omega
        have HB := hideJ HS.out.bel
        go_wp2_with (go_at_call 11; (with_reducible refine Calls.mono (HAw.out _ HB.out) ?_); rintro e w5 ⟨rfl, hb⟩; have HB5 := hideJ hb; clear hb)
        go_ret
        exact ⟨rfl, HB5.out⟩
end Go.Proofs.Ytfcgjedanhmpiaa
