/- slices.Values of a row of numbers, gone over. -/
/- Package space: lift. -/
import Derived.Test.YthgclfhfipfknaaGreatPMH
import Derived.Test.YthgclfhfipfknaaGreatQF
namespace Go.Proofs.YthgclfhfipfknaaGreat
open Go.ChangeShapes Go.WideShapes Go.ChangeAt Go.RowKit Go.Shelf
set_option linter.unusedVariables false
attribute [local go_sem] Oper.semAt_some

def encI (G : List Nat) (k : Nat) : Array Value := #[.int .i64 (G.getD k 0 : Int)]
/-- A row of numbers in a block. -/
def IntAt (w : World) (g : Nat) (G : List Nat) : Prop := ∃ cur, w.heap[g]? = some (.cells cur 3 (0, 0)) ∧ cur.toList.take G.length = inL G
theorem IntAt.cell {w : World} {g : Nat} {G : List Nat} (h : IntAt w g G) {k : Nat} (hk : k < G.length) : w.cell? ⟨g, k, none⟩ = some (.int .i64 (G.getD k 0 : Int)) := by
  obtain ⟨cur, h1, h2⟩ := h
  rw [Lib.cell_of_heap h1]
  have e : cur[k]? = (cur.toList.take G.length)[k]? := by rw [List.getElem?_take_of_lt hk]; simp
  rw [e, h2]
  simp [inL, hk, List.getD]
theorem values_e (w : World) (p : Option Addr) (l c : Nat) : Calls Tryz.prog 40 #[.slice p l c] w fun e w' => e = .returned (.func (.func 112) #[] #[.pointer (some ⟨w.heap.size, 0, none⟩)]) ∧ w' = w.alloc (.cells #[.slice p l c] 27) := by
  go_enter Tryz.func40, Tryz.ntmps40
  go_wp2
  go_ret
  exact ⟨rfl, rfl⟩
set_option maxRecDepth 100000 in
set_option maxHeartbeats 2000000 in
theorem values1_in (G : List Nat) (hG : G.length ≤ 1000000) (n lp Bp g cap : Nat) (Kp : World → World → Prop) (hKp : ∀ A B, Kp A B → B.heap[g]? = A.heap[g]?) (J Jx : List (Fin G.length) → World → Prop)
    (hY : ∀ pre x W, J pre W → pre.length < G.length → YieldAt Fence.wide (n - 1) Tryz.prog lp (encI G x.val) W fun e W' =>
      (e = .returned (.bool true) ∧ J (pre ++ [x]) W' ∧ Kp W W') ∨ (e = .returned (.bool false) ∧ Jx (pre ++ [x]) W'))
    (W : World) (hJ : AbidesFrom W.heap.size J) (hB : Blk W Bp #[.slice (some ⟨g, 0, none⟩) G.length cap] 27) (hI : IntAt W g G) (h0 : J [] W) :
    CallsIn Fence.wide n Tryz.prog 112 #[.func (.yield lp) #[] #[], .pointer (some ⟨Bp, 0, none⟩)] W fun e W' => (∃ v, e = .returned v) ∧
      ((∃ ys, ys = List.finRange G.length ∧ J ys W') ∨ (∃ pre, (∃ r, pre ++ r = List.finRange G.length) ∧ Jx pre W')) := by
  have c0 := hB.cell 0
  have HJ2 := hide h0
  have HI2 := hide hI
  clear h0 hI hB
  refine callsIn_of_wp Tryz.func112 rfl trivial ?_ rfl
  simp only [Tryz.ntmps112, List.size_toArray, List.length_cons, List.length_nil, Nat.reduceAdd, Nat.reduceSub, Array.replicate_succ, Array.replicate_zero, List.push_toArray, List.append_toArray, List.nil_append, List.cons_append]
  gi_wp2
  gi_loopw [7] (fun iv wr => ∃ k : Nat, k ≤ G.length ∧ iv = .int .i64 (k : Int) ∧ J ((List.finRange G.length).take k) wr ∧ IntAt wr g G) (fun iv _ => G.length - (intOf iv).toNat)
  case atStart => exact ⟨0, Nat.zero_le _, rfl, HJ2.out, HI2.out⟩
  case round =>
    obtain ⟨k, hk, rfl, hJs, hIr⟩ := hrel
    by_cases hlt : k < G.length
    · obtain ⟨fn, tmps, assign, body, hy, hR⟩ := hY _ ⟨k, hlt⟩ wr hJs (by rw [List.length_take, List.length_finRange]; omega)
      have HTk : Hid ((List.finRange G.length).take k ++ [⟨k, hlt⟩] = (List.finRange G.length).take (k + 1)) := by
        show _ = _
        rw [List.take_add_one, List.getElem?_eq_getElem (by rw [List.length_finRange]; exact hlt)]
        simp
      simp only [encI] at hy
      have HR := hide hR
      have HIr := hide hIr
      have hlt' : (k : Int) < (G.length : Int) := by omega
      have hk0 : (0 : Int) ≤ (k : Int) := by omega
      have ck := hIr.cell hlt
      have w3 : IntKind.i64.wrap ((k : Int) + 1) = (k : Int) + 1 := by rw [IntKind.wrap_i64]; omega
      clear hR hIr hY
      generalize G.getD k 0 = gk at *
      gi_wp2
      refine ⟨(fun h => absurd h (by decide)), HR.out.mono ?_⟩
      rintro e W3 (⟨rfl, hJ3, hk3⟩ | ⟨rfl, hJx3⟩)
      · have hI3 : IntAt W3 g G := by
          obtain ⟨cur, h1, h2⟩ := HIr.out
          exact ⟨cur, (hKp _ _ hk3).trans h1, h2⟩
        gi_wp2
        go_roundw
        case rel => exact ⟨k + 1, by omega, by simp, by rw [← HTk.out]; exact hJ3, hI3⟩
        case measure => simp [intOf]; omega
      · gi_wp2
        refine bodyPost_ret (results_none rfl _ _ _) rfl ?_
        exact ⟨⟨_, rfl⟩, .inr ⟨_, ⟨(List.finRange G.length).drop (k + 1), by rw [HTk.out, List.take_append_drop]⟩, hJx3⟩⟩
    · obtain rfl : k = G.length := by omega
      gi_wp2
      go_end0
      rw [List.take_of_length_le (by rw [List.length_finRange]; exact Nat.le_refl _)] at hJs
      exact ⟨⟨_, rfl⟩, .inl ⟨_, rfl, hJs⟩⟩
theorem values_stops (G : List Nat) (hG : G.length ≤ 1000000) (n Bp g cap : Nat) (Kp : World → World → Prop) (hKp : ∀ A B, Kp A B → B.heap[g]? = A.heap[g]?) (w : World) (hB : Blk w Bp #[.slice (some ⟨g, 0, none⟩) G.length cap] 27) (hI : IntAt w g G) :
    SeqStopsK Fence.wide n Tryz.prog 112 #[.pointer (some ⟨Bp, 0, none⟩)] (fun x : Fin G.length => encI G x.val) Kp (fun ys => ys = List.finRange G.length) (fun pre => ∃ r, pre ++ r = List.finRange G.length) G.length w := fun lp J Jx W hW hJ _ hY h0 =>
  values1_in G hG n lp Bp g cap Kp hKp J Jx hY W hJ (hB.later hW) (by obtain ⟨cur, h1, h2⟩ := hI; exact ⟨cur, (hW.block g (Array.getElem?_eq_some_iff.1 h1).1).trans h1, h2⟩) h0
end Go.Proofs.YthgclfhfipfknaaGreat

namespace Go.Proofs.YthgclfhfipfknaaGreat
variable {sv : Value}
open Go.ChangeShapes Go.WideShapes Go.ChangeAt Go.RowKit Go.Maps
set_option linter.unusedVariables false

theorem cell_only {w w' : World} {g i : Nat} {v : Value} {S : List Nat} (h : w.cell? ⟨g, i, none⟩ = some v) (ho : Only S w w') (hn : g ∉ S) : w'.cell? ⟨g, i, none⟩ = some v :=
  (World.cell?_of_block (a := ⟨g, i, none⟩) (ho.block g (World.block_lt_of_cell? w ⟨g, i, none⟩ h) hn)).trans h
set_option maxRecDepth 20000 in
set_option maxHeartbeats 4000000 in
theorem lift_e (w : World) (t pm n F L0 k : Nat) {P : Nat → List UInt8} {K : Nat} {N : Nat → Nat} (h : Tr sv w t pm n P K true) (hF : FstB w F L0 N) (hL0 : L0 < 4294967296) (hK : K ≤ 100000) (hk2 : 2 ≤ k) (hkn : k ≤ n) (R : Option (Nat × Nat)) (hR : (if isFree (P k) = true then liftR P n k (n - 1) L0 0 else none) = R) :
    Calls Tryz.prog 115 #[.pointer (some ⟨t, 0, none⟩), .pointer (some ⟨F, 0, none⟩), .int .i64 (k : Int)] w fun e w' => e = .returned (.int .i64 0) ∧ LfW sv w w' t pm n P K F N R := by
  have HPg := hide (page_e w _ _ (P k) 0 (PgK.inn h (by omega) hkn))
  have HPl := hide (h.len k)
  have HFl := hide (fun V => freeLink_e V (P k) (h.len k))
  have hz := zeroP
  have h1 : 1 ≤ n := by omega
  by_cases hf : isFree (P k) = true
  · rw [if_pos hf] at hR
    rw [hf] at HFl
    have HMe := hide (fun X (hb : Below w.heap.size w X) => meeting_e X t pm n (h.later hb) L0)
    have HT := hide h
    have HFs := hide (fun X (hb : Below w.heap.size w X) => FstB.link (Blk.later hF hb))
    have HF0 := hide hF
    clear h hf hF
    go_enter Tryz.func115, Tryz.ntmps115
    go_wp2_with (first
      | (go_at_call 102; (with_reducible refine Calls.mono HPg.out ?_); rintro e w4 ⟨rfl, hb⟩; have HB4 := hide (below_trans hb (below_alloc w4 (.cells (bc zs) 59))); have HN4 := hide (PAt.new w4 zs); have HS4 := hide hb.size; clear hb)
      | ((with_reducible refine atSt 59 ?_); refine wp_storeP HPl.out zs_length HN4.out _ _ (by rfl) (by rfl) (by rfl) (by rfl) ?_; intro W5 hp hb hk; have HP5 := hide hp; have HB5 := hide (hb _ _ HB4.out HS4.out); clear hp hb hk)
      | ((with_reducible refine atLd 59 ?_); refine wp_loadP HPl.out HP5.out _ (by rfl) (by rfl) (by rfl) ?_)
      | (go_at_call 123; (with_reducible refine Calls.mono (HFl.out _) ?_); rintro e w6 ⟨rfl, hb⟩; have hb6 := below_trans HB5.out hb; have HB6 := hide (below_trans hb6 (below_alloc w6 (.cells #[.int .i64 0, .int .u32 0] 111))); have HL6 := hide (Blk.new w6 #[.int .i64 0, .int .u32 0] 111); have HS6 := hide hb6.size; have c6 := HFs.out _ HB6.out; clear hb hb6)
      | (go_at_call 51; (with_reducible refine Calls.mono (HMe.out _ HB6.out) ?_); rintro e w7 ⟨A, M, C, B, rfl, hm, hb, hA, hM, _⟩; have HM7 := hide hm; have HL7 := hide (Blk.later HL6.out hb); have HA7 := hide (And.intro hA hM); have HB7 := hide (below_trans HB6.out hb); clear hm hb hA hM))
    go_loopw [] (fun wr => ∃ L m last lk, LfI w wr A M C B w6.heap.size L m n t last lk ∧ liftR P n k (n - m) L last = R ∧ last ≤ n) (fun wr => n - cellN wr M)
    case atStart =>
      exact ⟨L0, 1, 0, 0, ⟨HB7.out, HM7.out, HL7.out, by have := HS6.out; have := HA7.out.1; simp at this; omega, by have := HS6.out; have := HA7.out.2; simp at this; omega, HS6.out, hL0, Nat.le_refl _, h1⟩, hR, by omega⟩
    case round =>
      obtain ⟨L, m, last, lk, hi, hr, hln⟩ := hrel
      have hTr := HT.out.later hi.bel
      have HIr := hide infoFr
      have HFr := hide (fun V => Blk.new V #[.int .i64 0, .int .u32 0] 111)
      by_cases hok : (m ≠ n ∧ 2 ≤ L ∧ L ≤ n) ∧ isFree (P L) = true
      · rw [liftR_some hok hi.le] at hr
        have hfew := hTr.few
        have HC := hide ((mt_meet wr A M C B L m n t pm hTr hi.lt hi.mt hok.1.1 hok.1.2.1 hok.1.2.2 (by have := hi.le; omega)).mono (fun e w' hh => hh.1 hok.2))
        have hX := linkV_lt (P L)
        have HI := hide (fun w8 W9 o hm ho ho9 => @LfI.step w wr w8 W9 A M C B _ L m n t last lk _ hi hm ho hX hok.1.1 o ho9)
        have HEd := hide (fun V => end_e V (L : Int) (linkV (P L) : Int))
        have hL0 : ((L : Int) == 0) = false := by have := hok.1.2.1; simp; omega
        rw [hL0] at HEd
        have HM := hide (And.intro hi.mt.num hi.le)
        have HIw := hide hi.bel.size
        have HH := hide hok
        have HL2 := hide hok.1.2.1
        generalize linkV (P L) = X at *
        clear hTr hi hok hfew
        by_cases hk : L = k
        · rw [if_pos hk] at hr
          subst hr
          subst hk
          have HEl := hide (fun V => end_e V (last : Int) (lk : Int))
          cases last with
          | zero =>
            go_wp2_with (first
              | (go_at_call 122; (with_reducible refine Calls.mono HC.out ?_); rintro e w8 ⟨rfl, hm, ho⟩; have HM8 := hide (And.intro hm ho); clear hm ho)
              | ((with_reducible refine atSt 111 ?_); refine wp_storeB (c := #[.int .i64 (L : Int), .int .u32 (X : Int)]) (z := #[.int .i64 0, .int .u32 0]) HIr.out rfl (fr_one _ _) (HFr.out _) _ _ (by rfl) (by rfl) (by rfl) (by rfl) ?_; intro W9 hb9 ho9; have q0 := hb9.cell 0; have q1 := hb9.cell 1; have HQ9 := hide hb9; have HI9 := hide (HI.out _ _ _ HM8.out.1 HM8.out.2 ho9); clear hb9 ho9)
              | (go_at_call 52; (with_reducible refine Calls.mono (HEd.out _) ?_); rintro e w10 ⟨rfl, hb⟩; have hq := Blk.later HQ9.out hb; have r0 := hq.cell 0; have r1 := hq.cell 1; have HQ10 := hide hq; have HI10 := hide (HI9.out.later hb); obtain ⟨l0, l1⟩ := HI10.out.cells; clear hb hq q0 q1)
              | (go_at_call 52; (with_reducible refine Calls.mono (HEl.out _) ?_); rintro e w11 ⟨rfl, hb⟩; have hq := Blk.later HQ10.out hb; have s0 := hq.cell 0; have s1 := hq.cell 1; have HI11 := hide (HI10.out.later hb); have hF := Blk.later HF0.out HI11.out.bel; have cF := hF.cell 0; have fF := hF.frozen 0; clear hb hq r0 r1 l0 l1 hF))
            go_ret
            exact ⟨rfl, lift_first HF0.out HI11.out.bel X⟩
          | succ last =>
            have HFp := hide (fun V => freePage_e V X hX)
            have HPu := hide (fun V (hb : Below w.heap.size w V) => (put_e V _ ((last + 1 : Nat) : Int) (freeL X) (freeL_length X) 0 _ (.inn (k := last + 1) (HT.out.later hb) (by omega) (by omega) (by have := HT.out.few; omega) hK)).mono (fun e w' hh => (And.intro hh.1 (And.intro (And.intro hh.2.1 (Only.after_below hb hh.2.2)) hh.2.2) : e = .returned (.int .i64 0) ∧ (Tr sv w' t pm (max n (last + 1)) (upP P (last + 1) (freeL X)) (K + 1) true ∧ Only [t, pm] w w') ∧ Only [t, pm] V w')))
            rw [show max n (last + 1) = n by omega] at HPu
            have HRs := hide (fun w' (hh : Tr sv w' t pm n (upP P (last + 1) (freeL X)) (K + 1) true ∧ Only [t, pm] w w') => (show LfW sv w w' t pm n P K F N (some (last + 1, X)) from hh))
            have hq0 : (((last + 1 : Nat) : Int) == 0) = false := by simp; omega
            obtain ⟨q, hqe⟩ : ∃ q, last + 1 = q := ⟨_, rfl⟩
            rw [hqe] at HPu HRs hq0 HEl HI
            have HQE := hide hqe
            clear hqe hln
            rw [hq0] at HEl
            go_wp2_with (first
              | (go_at_call 122; (with_reducible refine Calls.mono HC.out ?_); rintro e w8 ⟨rfl, hm, ho⟩; have HS8 := hide (Nat.le_trans HIw.out ho.size); have HM8 := hide (And.intro hm ho); clear hm ho)
              | ((with_reducible refine atSt 111 ?_); refine wp_storeB (c := #[.int .i64 (L : Int), .int .u32 (X : Int)]) (z := #[.int .i64 0, .int .u32 0]) HIr.out rfl (fr_one _ _) (HFr.out _) _ _ (by rfl) (by rfl) (by rfl) (by rfl) ?_; intro W9 hb9 ho9; have q0 := hb9.cell 0; have q1 := hb9.cell 1; have HQ9 := hide hb9; have HI9 := hide (HI.out _ _ _ HM8.out.1 HM8.out.2 ho9); clear hb9 ho9)
              | (go_at_call 52; (with_reducible refine Calls.mono (HEd.out _) ?_); rintro e w10 ⟨rfl, hb⟩; have hq := Blk.later HQ9.out hb; have r0 := hq.cell 0; have r1 := hq.cell 1; have HQ10 := hide hq; have HI10 := hide (HI9.out.later hb); obtain ⟨l0, l1⟩ := HI10.out.cells; clear hb hq q0 q1)
              | (go_at_call 52; (with_reducible refine Calls.mono (HEl.out _) ?_); rintro e w11 ⟨rfl, hb⟩; have hq := Blk.later HQ10.out hb; have s0 := hq.cell 0; have s1 := hq.cell 1; have HI11 := hide (HI10.out.later hb); obtain ⟨p0, p1⟩ := HI11.out.cells; clear hb hq r0 r1 l0 l1))
            have HC11 := hide (show w11.drew.cell? ⟨w6.heap.size, 0, none⟩ = some (.int .i64 (q : Int)) ∧ w11.drew.cell? ⟨w8.heap.size, 1, none⟩ = some (.int .u32 (X : Int)) from ⟨p0, s1⟩)
            have HB11 := hide HI11.out.bel.drew
            go_region_held3 (fun V => V.cell? ⟨w6.heap.size, 0, none⟩ = some (.int .i64 (q : Int)) ∧ V.cell? ⟨w8.heap.size, 1, none⟩ = some (.int .u32 (X : Int))) (first | exact HC11.out | exact HC12.out | exact HC13.out) (first
              | (go_at_call 116; (with_reducible refine Calls.mono (HFp.out _) ?_); rintro e w12 ⟨rfl, hb⟩; have HC12 := hide (And.intro (cell_later hb HC11.out.1) (cell_later hb HC11.out.2)); have HB12 := hide (below_trans HB11.out hb); clear hb)
              | (go_at_call 20; (with_reducible refine Calls.mono (HPu.out _ HB12.out) ?_); rintro e w13 ⟨rfl, hb, ho⟩; have HC13 := hide (And.intro (cell_only HC12.out.1 ho (not_lt2 (Nat.lt_of_lt_of_le (tr_lt HT.out).1 HS6.out) (Nat.lt_of_lt_of_le (tr_lt HT.out).2 HS6.out))) (cell_only HC12.out.2 ho (not_lt2 (Nat.lt_of_lt_of_le (tr_lt HT.out).1 HS8.out) (Nat.lt_of_lt_of_le (tr_lt HT.out).2 HS8.out)))); have HB13 := hide (HRs.out _ hb); clear hb ho))
            all_goals
              go_wp2
              go_ret
              refine ⟨rfl, ?_⟩
              rw [HQE.out]
              exact HB13.out
        · rw [if_neg hk] at hr
          have hLk : ((L : Int) == (k : Int)) = false := by simp; omega
          go_wp2_with (first
            | (go_at_call 122; (with_reducible refine Calls.mono HC.out ?_); rintro e w8 ⟨rfl, hm, ho⟩; have HM8 := hide (And.intro hm ho); clear hm ho)
            | ((with_reducible refine atSt 111 ?_); refine wp_storeB (c := #[.int .i64 (L : Int), .int .u32 (X : Int)]) (z := #[.int .i64 0, .int .u32 0]) HIr.out rfl (fr_one _ _) (HFr.out _) _ _ (by rfl) (by rfl) (by rfl) (by rfl) ?_; intro W9 hb9 ho9; have q0 := hb9.cell 0; have q1 := hb9.cell 1; have HQ9 := hide hb9; have HI9 := hide (HI.out _ _ _ HM8.out.1 HM8.out.2 ho9); clear hb9 ho9)
            | (go_at_call 52; (with_reducible refine Calls.mono (HEd.out _) ?_); rintro e w10 ⟨rfl, hb⟩; have hq := Blk.later HQ9.out hb; have r0 := hq.cell 0; have r1 := hq.cell 1; have HI10 := hide (HI9.out.later hb); clear hb hq q0 q1)
            | ((with_reducible refine atSt 111 ?_); refine wp_storeB (c := #[.int .i64 (L : Int), .int .u32 (X : Int)]) (z := #[.int .i64 (last : Int), .int .u32 (lk : Int)]) HIr.out rfl (fr_one _ _) HI10.out.lb _ _ (by rfl) (by rfl) (by rfl) (by rfl) ?_; intro W11 hb11 ho11; have HI11 := hide (HI10.out.put hb11 ho11); clear hb11 ho11))
          go_roundw
          case rel =>
            iterate 42 (apply Exists.intro)
            exact ⟨⟨X, m + 1, L, X, HI11.out, hr, HH.out.1.2.2⟩, rfl⟩
          case measure => rw [HI11.out.mt.num, HM.out.1]; have := HH.out.1.1; have := HM.out.2; omega
      · rw [liftR_none hi.one hok hi.le] at hr
        subst hr
        obtain ⟨E, hE, hc⟩ := mt_stop w wr A M C B _ L m n t last lk pm hi hTr hok
        have HC := hide hc
        have HEd := hide (fun V => end_e V 0 0)
        clear hc hTr hi hok hln
        rcases hE with rfl | rfl
        all_goals
          go_wp2_with (first
            | (go_at_call 122; (with_reducible refine Calls.mono HC.out ?_); rintro e w8 ⟨rfl, hb⟩; have HS8 := hide hb.size; have HB8 := hide (below_trans hb (below_alloc w8 (.cells #[.int .i64 0, .int .u32 0] 111))); clear hb)
            | ((with_reducible refine atSt 111 ?_); refine wp_storeB (c := #[.int .i64 0, .int .u32 0]) HIr.out rfl (fr_one _ _) (HFr.out _) _ _ (by rfl) (by rfl) (by rfl) (by rfl) ?_; intro W9 hb9 ho9; have q0 := hb9.cell 0; have q1 := hb9.cell 1; have HB9 := hide (below_only1 HB8.out ho9 HS8.out); clear hb9 ho9)
            | (go_at_call 52; (with_reducible refine Calls.mono (HEd.out _) ?_); rintro e w10 ⟨rfl, hb⟩; have HB10 := hide (below_trans HB9.out hb); clear hb))
          go_ret
          first | exact ⟨rfl, HB10.out⟩ | exact ⟨rfl, HB9.out⟩
  · rw [if_neg hf] at hR
    subst hR
    have hff : isFree (P k) = false := by simpa using hf
    rw [hff] at HFl
    clear h hf hff hF
    go_enter Tryz.func115, Tryz.ntmps115
    go_wp2_with (first
      | (go_at_call 102; (with_reducible refine Calls.mono HPg.out ?_); rintro e w4 ⟨rfl, hb⟩; have HB4 := hide (below_trans hb (below_alloc w4 (.cells (bc zs) 59))); have HN4 := hide (PAt.new w4 zs); have HS4 := hide hb.size; clear hb)
      | ((with_reducible refine atSt 59 ?_); refine wp_storeP HPl.out zs_length HN4.out _ _ (by rfl) (by rfl) (by rfl) (by rfl) ?_; intro W5 hp hb hk; have HP5 := hide hp; have HB5 := hide (hb _ _ HB4.out HS4.out); clear hp hb hk)
      | ((with_reducible refine atLd 59 ?_); refine wp_loadP HPl.out HP5.out _ (by rfl) (by rfl) (by rfl) ?_)
      | (go_at_call 123; (with_reducible refine Calls.mono (HFl.out _) ?_); rintro e w6 ⟨rfl, hb⟩; have HB6 := hide (below_trans HB5.out hb); clear hb))
    go_ret
    exact ⟨rfl, HB6.out⟩
end Go.Proofs.YthgclfhfipfknaaGreat
