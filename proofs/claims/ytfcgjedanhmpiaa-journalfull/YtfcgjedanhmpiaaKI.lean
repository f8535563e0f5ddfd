/- What a hot journal keeps. -/
/- A hot journal is taken back. -/
/- Commit of any pages that may follow, on a disk that may be full. -/
import Derived.Test.YtfcgjedanhmpiaaKF
namespace Go.Proofs.Ytfcgjedanhmpiaa
open Go.ChangeShapes Go.WideShapes Go.ChangeAt Go.RowKit
open Go.ChangeMaps (setBlock)
set_option linter.unusedVariables false

theorem rowsC_one {C : Nat → List Value} {k : Nat} : rowsC C (k + 1) = rowsC C k ++ C k := rfl
/-- Pages in a row of their own. -/
def PgO (w : World) (base : Nat) (v : Value) (k : Nat) (T : Nat → Int) (P : Nat → List UInt8) : Prop := ∃ q c, v = .slice q k c ∧ w.ownsRow base 67 257 v k (rowsC (fun j => pcl (T j) (P j)) k)
theorem PgO.step {w : World} {base g cap k : Nat} {T : Nat → Int} {P : Nat → List UInt8} (h : w.ownsRow base 67 257 (.slice (some ⟨g, 0, none⟩) (k + 1) cap) (k + 1) (rowsC (fun j => pcl (T j) (P j)) k ++ pcl (T k) (P k))) : PgO w base (.slice (some ⟨g, 0, none⟩) (k + 1) cap) (k + 1) T P :=
  ⟨_, _, rfl, h⟩
theorem mulLe {j m k : Nat} (h : j < m) : k * j + k ≤ k * m := by
  have := Nat.mul_le_mul_left k h
  rw [Nat.mul_succ] at this
  exact this
/-- The number ahead. -/
def lastT (T : Nat → Nat) : Nat → Nat
  | 0 => 0
  | k + 1 => T k
theorem lastT_lt {old m : Nat} {T : Nat → Nat} (h : Rise old m T) {k : Nat} (hk : k < m) : lastT T k < T k := by
  cases k with
  | zero => exact (h.low 0 hk).1
  | succ k => exact h.up k (k + 1) (by omega) hk

set_option maxHeartbeats 8000000 in
set_option maxRecDepth 20000 in
theorem kept_j (w : World) (base b : Nat) (D : DS) (who : Nat → Nat) (R : Rep w base b D who) {r : Int} {i : Nat} (h : JI r D i) (old m : Nat) (T : Nat → Nat) (P : Nat → List UInt8) (hH : Hotv (seenOf D nmJ) old m T P) (hP : ∀ k, k < m → (P k).length = 256) (hT : Rise old m T) (ho : old ≤ 4096) (hm : m ≤ 4096) :
    Calls Try.prog 35 #[.agg #[.pointer (some ⟨b, 0, none⟩)]] w fun e w' => (∃ q c, e = .returned (.tuple #[.int .i64 (old : Int), .slice q m c, .bool true]) ∧ PgA w' q m (fun k => (T k : Int)) P) ∧ w.grownBy w' none := by
  obtain ⟨e0, e1, e2, e3⟩ := hdw_seal (by omega) (by omega) (by omega) (by omega) hH.head
  have hg0 := World.grownBy_alloc w (.cells #[.pointer (some ⟨b, 0, none⟩)] 53) none
  have hb0 : Blk (w.alloc (.cells #[.pointer (some ⟨b, 0, none⟩)] 53)) w.heap.size #[.pointer (some ⟨b, 0, none⟩)] 53 := alloc_new _ _
  have HHd : Hid (∀ V, w.grownBy V none → Calls Try.prog 29 #[.agg #[.pointer (some ⟨b, 0, none⟩)]] V fun e w' => e = .returned (.agg #[.int .u32 ((m : Int) + 1), .int .u32 (old : Int), .int .u32 0, .int .u32 0]) ∧ V.grownBy w' none) := fun V hV => by
    have := head_j V base b D who (R.keep hV) h
    rw [hd_eq, e0, e1, e2, e3] at this
    exact this
  have hlen := h.len nmJ
  have hHl := hH.len
  have HRd : Hid (∀ k V, k < m → w.grownBy V none → Calls Try.prog 33 #[.pointer (some ⟨b, 0, none⟩), .string nmJ, .int .i64 ((64 + 320 * k : Nat) : Int), .int .i64 320] V fun e w' => e = .returned (.tuple #[.string (bstr (recB (T k) (P k))), .int .i64 0]) ∧ V.grownBy w' none) := fun k V hk hV => by
    have h1 := mulLe (k := 320) hk
    have := Read_in V base b D who (R.keep hV) h.down nmJ (64 + 320 * k) 320 (by omega) (by omega) (by omega)
    rw [show ((seenOf D nmJ).drop (64 + 320 * k)).take 320 = recB (T k) (P k) from hH.recs k hk] at this
    exact this
  have HRs := hideJ (fun k V (hk : k < m) => recordStart_j V k (by omega))
  have HRr := hideJ (fun k V (hk : k < m) => readRecord_j V (T k) (by have := (hT.low k hk).2; omega) (P k) (hP k hk))
  have HPl := hideJ hP
  have HTl := hideJ (fun k (hk : k < m) => And.intro (lastT_lt hT hk) (hT.low k hk).2)
  have hw0 : IntKind.i64.wrap ((m : Int) + 1) = (m : Int) + 1 := by rw [IntKind.wrap_i64]; omega
  have hwm : IntKind.i64.wrap (m : Int) = (m : Int) := by rw [IntKind.wrap_i64]; omega
  have hw2 : IntKind.i64.wrap (old : Int) = (old : Int) := by rw [IntKind.wrap_i64]; omega
  have t0 : ¬ (4097 : Int) < (m : Int) + 1 := by omega
  have t1 : ¬ (4096 : Int) < (old : Int) := by omega
  have HG := hideJ hg0
  have HB := hideJ hb0
  have cb := box_cell hb0
  have HM := hideJ (And.intro ho hm)
  clear R h hg0 hb0 hH hP hT ho hm hlen hHl e0 e1 e2 e3
  go_enter Try.func35, Try.ntmps35
  go_upto_region 4 with (first
    | (go_at_call 29; (with_reducible refine Calls.mono (HHd.out _ HG.out) ?_); rintro e w1 ⟨rfl, hg⟩; have HG1 := hideJ (grown_trans' HG.out hg); have HB1 := hideJ (Blk.grown HB.out hg); clear hg))
  have HG2 := hideJ (grown_trans' HG1.out (World.grownBy_alloc w1 (.cells #[.int .u32 ((m : Int) + 1), .int .u32 (old : Int), .int .u32 0, .int .u32 0] 63) none))
  have HB2 : Hid (Blk (w1.alloc (.cells #[.int .u32 ((m : Int) + 1), .int .u32 (old : Int), .int .u32 0, .int .u32 0] 63)) w.heap.size #[.pointer (some ⟨b, 0, none⟩)] 53) := Blk.grown HB1.out (World.grownBy_alloc _ _ _)
  have HH2 : Hid (Blk (w1.alloc (.cells #[.int .u32 ((m : Int) + 1), .int .u32 (old : Int), .int .u32 0, .int .u32 0] 63)) w1.heap.size #[.int .u32 ((m : Int) + 1), .int .u32 (old : Int), .int .u32 0, .int .u32 0] 63) := alloc_new _ _
  go_name_world W hW
  rw [hW] at HG2 HB2 HH2
  clear hW
  have HS0 : Hid (W.drew.cell? ⟨w1.heap.size, 0, none⟩ = some (.int .u32 ((m : Int) + 1)) ∧ W.drew.cell? ⟨w1.heap.size, 1, none⟩ = some (.int .u32 (old : Int))) := ⟨(HH2.out.cell 0).trans rfl, (HH2.out.cell 1).trans rfl⟩
  go_region_held3 (fun V => V.cell? ⟨w1.heap.size, 0, none⟩ = some (.int .u32 ((m : Int) + 1)) ∧ V.cell? ⟨w1.heap.size, 1, none⟩ = some (.int .u32 (old : Int))) (with_reducible exact HS0.out) (fail)
  all_goals (try go_wp2)
  clear cb t0 t1 hw0
  go_loopw [8, 9, 43] (fun pv lv iv wq => ∃ k : Nat, k ≤ m ∧ iv = .int .i64 (k : Int) ∧ lv = .int .i64 (lastT T k : Int) ∧ PgO wq W.heap.size pv k (fun j => (T j : Int)) P ∧ W.grownBy wq none) (fun _ _ iv _ => m - (intOf iv).toNat)
  case atStart => exact ⟨0, Nat.zero_le _, rfl, rfl, ⟨none, 0, rfl, World.ownsRow_nil _ _ _ _⟩, World.grownBy_drew W⟩
  case round =>
    obtain ⟨k, hk, rfl, rfl, ⟨q, c', rfl, hown⟩, hg⟩ := hrel
    have HOw := hideJ hown
    have HWk := hideJ hg
    have HGk := hideJ (grown_trans' HG2.out hg)
    have HBk := hideJ (Blk.grown HB2.out hg)
    clear hown hg
    by_cases hlt : k < m
    · have l1 : (k : Int) < (m : Int) := by omega
      have l0 : (0 : Int) ≤ (k : Int) := by omega
      have hw1 : IntKind.i64.wrap ((k : Int) + 1) = (k : Int) + 1 := by have := HM.out; rw [IntKind.wrap_i64]; omega
      have HK := hideJ hlt
      have HPk := hideJ (HPl.out k hlt)
      have HRsk := hideJ (fun V => HRs.out k V hlt)
      have HRdk := hideJ (fun V hV => HRd.out k V hlt hV)
      have HRrk := hideJ (fun V => HRr.out k V hlt)
      have v1 : ¬ (T k : Int) ≤ (lastT T k : Int) := by have := (HTl.out k hlt).1; omega
      have v2 : ¬ (old : Int) < (T k : Int) := by have := (HTl.out k hlt).2; omega
      obtain ⟨A, hAA⟩ : ∃ A, A = 64 + 320 * k := ⟨_, rfl⟩
      obtain ⟨X, hX⟩ : ∃ X, X = bstr (recB (T k) (P k)) := ⟨_, rfl⟩
      rw [← hAA] at HRsk HRdk
      rw [← hX] at HRdk HRrk
      clear hAA hX
      go_upto_region 10 with fail
      have HSG : Hid (∀ V, wr.drew.grownBy V none → V.cell? ⟨w.heap.size, 0, none⟩ = some (.pointer (some ⟨b, 0, none⟩))) := fun V hV => box_cell (Blk.grown (box_drew HBk.out) hV)
      have HS1 := hideJ (HSG.out _ (grown_refl _))
      have HD := hideJ (grown_trans' HGk.out (World.grownBy_drew wr))
      go_region_held3 (fun V => V.cell? ⟨w.heap.size, 0, none⟩ = some (.pointer (some ⟨b, 0, none⟩))) (first | with_reducible exact HS1.out | with_reducible exact HS2.out) (first
        | (go_at_call 40; (with_reducible refine Calls.mono (HRsk.out _) ?_); rintro e y1 ⟨rfl, rfl⟩)
        | (go_at_call 33; (with_reducible refine Calls.mono (HRdk.out _ HD.out) ?_); rintro e y2 ⟨rfl, hg⟩; have HY2 := hideJ (grown_drew_then hg); have HS2 := hideJ (HSG.out _ hg); clear hg))
      have HOy := hideJ (own_grown HOw.out HY2.out)
      have HWy := hideJ (grown_trans' HWk.out HY2.out)
      have HI := hideJ (size67 (n := (T k : Int)) HPk.out)
      have HA := hideJ (pcl_all (T k : Int) (P k))
      have HN67 := hideJ new67
      have HPs : Hid ((pcl (T k : Int) (P k)).toArray.size = 257) := by show _ = _; rw [List.size_toArray, pcl_length _ HPk.out]
      have HPn : Hid ((pcl (T k : Int) (P k)).length = 1 * 257) := by show _ = _; rw [pcl_length _ HPk.out]
      have HP1 := hideJ (pcl_one (T k : Int) (P k))
      go_wp2_with (first
        | (go_at_call 52; (with_reducible refine Calls.mono (HRrk.out _) ?_); rintro e y3 ⟨rfl, hg⟩; obtain ⟨z3, hz3, hZ3⟩ := HN67.out y3; have HZ3 := hideJ hZ3; have HZs := hideJ (HPs.out.trans hz3.symm); have HO3 := hideJ (own_grown HOy.out hg); have HNe := hideJ (own_ne HO3.out (Nat.le_refl _)); have HW3 := hideJ (grown_trans' HWy.out hg); clear hg hz3 hZ3)
        | ((with_reducible refine at67S ?_); refine wp_storeB (c := (pcl (T k : Int) (P k)).toArray) HI.out HZs.out HA.out HZ3.out _ _ (by rfl) (by rfl) (by rfl) (by rfl) ?_; intro W5 hb5 ho5; have HB5 := hideJ hb5; have HG5 := hideJ (grown_only (World.grownBy_alloc y3 _ none) ho5 (Nat.le_refl _)); have HW5 := hideJ (grown_trans' HW3.out HG5.out); have HO5 := hideJ (own_grown HO3.out HG5.out); have cN := (Blk.cell hb5 0).trans (show _ = some (Value.int .i64 (T k : Int)) from rfl); clear hb5 ho5)
        | ((with_reducible refine at67L ?_); refine wp_load67 HPk.out (range_of_blk2 HB5.out) _ (by rfl) (by rfl) (by rfl) ?_)
        | ((with_reducible refine atBs22 ?_); refine wp_bs1 (X := (pcl (T k : Int) (P k)).toArray) Try.underlying22 infoE67 (by omega) (by omega) HPs.out _ (by rfl) (by rfl) (by rfl) ?_)
        | ((with_reducible refine atApp22 ?_); refine wp_appE (m := 1) Try.underlying22 infoE67 (by omega) (by omega) (pcl (T k : Int) (P k)) HPn.out (by omega) HP1.out HO5.out (by have := HM.out; have := HK.out; omega) HW5.out.size _ _ (by rfl) (by rfl) (by rfl) (by rfl) ?_; intro g6 cap6 w6 hown6 hap6; have HO6 := hideJ hown6; have HW6 := hideJ (hap6.grown W (Nat.le_refl _) HW5.out); have cN6 := (Blk.cell (hap6.other _ _ _ HNe.out HB5.out) 0).trans (show _ = some (Value.int .i64 (T k : Int)) from rfl); clear hown6 hap6))
      refine ⟨⟨k + 1, HK.out, rfl, rfl, PgO.step HO6.out, HW6.out⟩, ?_⟩
      simp only [intOf]; have := HK.out; omega
    · obtain rfl : k = m := by omega
      obtain ⟨q5, c5, e5, hA⟩ := own_PgA HPl.out HOw.out
      cases e5
      have HAk := hideJ hA
      clear hA
      go_wp2
      refine bodyPost_ret (v := .tuple #[.int .i64 (old : Int), .slice q k c', .bool true]) (by simp [results, Try.results35, go_sem]) rfl ?_
      exact ⟨⟨q, ⟨c', rfl⟩, HAk.out⟩, HGk.out⟩
end Go.Proofs.Ytfcgjedanhmpiaa

namespace Go.Proofs.Ytfcgjedanhmpiaa
open Go.ChangeShapes Go.WideShapes Go.ChangeAt Go.RowKit
open Go.ChangeMaps (setBlock)
set_option linter.unusedVariables false

theorem SV.one {w : World} {b : Nat} {s : Stp} {v : Value} (h : SV w b s v) : v.oneCell' = true := by
  cases s with
  | put nm at_ d => obtain ⟨k1, k2, k3, k4, rfl, _⟩ := h; rfl
  | cut nm n => obtain ⟨k1, k2, k3, rfl, _⟩ := h; rfl
  | sync nm => obtain ⟨k1, k2, rfl, _⟩ := h; rfl
theorem StA.list {w : World} {b m : Nat} {q : Option Addr} {S : Nat → Stp} (h : StA w b q m S) (hm : 0 < m) : ∃ g, ∃ vs : List Value, q = some ⟨g, 0, none⟩ ∧ vs.length = m ∧ (∀ j u, vs[j]? = some u → w.cell? ⟨g, j, none⟩ = some u) ∧ ∀ k u, vs[k]? = some u → SV w b (S k) u := by
  obtain ⟨g, cur, e, hb, hc⟩ := h hm
  have hsz : m ≤ cur.toList.length := by
    obtain ⟨v, hv, _⟩ := hc (m - 1) (by omega)
    have := (Array.getElem?_eq_some_iff.1 hv).1
    simp
    omega
  have hg : ∀ k u, (cur.toList.take m)[k]? = some u → k < m ∧ cur[k]? = some u := fun k u hk => by
    rw [List.getElem?_take] at hk
    by_cases c : k < m
    · rw [if_pos c, Array.getElem?_toList] at hk
      exact ⟨c, hk⟩
    · rw [if_neg c] at hk; cases hk
  refine ⟨g, cur.toList.take m, e, by rw [List.length_take]; omega, fun j u hj => ?_, fun k u hk => ?_⟩
  · rw [Blk.cell hb]; exact (hg j u hj).2
  · obtain ⟨h1, h2⟩ := hg k u hk
    obtain ⟨v, hv, hs⟩ := hc k h1
    rw [hv] at h2
    cases h2
    exact hs
theorem step_appG {ops : Array Oper} {o : Oper} {a : Act} {K : Act → World → Prop} {Q : Exit → Act → World → Prop} {E : Prop} {W : World} {base b n m c : Nat} {v : Value} {q : Option Addr} {S S' : Nat → Stp} (hst : StO W base b v n S) (hA : StA W b q m S') (hm : 0 < m) (hn : n + m ≤ 1000) (hbase : base ≤ W.heap.size) (s x : Operand) (hgd : o.guard = none)
    (ho : o.op = .call { callee := .builtin .append, args := #[s, x], argTypes := #[58, 58] }) (hs : a.eval s = v) (hx : a.eval x = .slice q m c)
    (hk : ∀ p cap w', StO w' base b (.slice p (n + m) cap) (n + m) (catS S n S') → App base W w' → K (a.put o.dst (.slice p (n + m) cap)) w') :
    if Region.wanted o (yielded ops a.tmps) = true then Oper.wp Try.prog o a W K Q else E := by
  obtain ⟨i, z, hi, hz0, hz1, hz2, hz3⟩ := infoF
  obtain ⟨us, hu, hul, hus⟩ := hst
  obtain ⟨g0, vs, rfl, hvs, hnews, hsv⟩ := hA.list hm
  refine step_append_lies (w := W) hgd s x 58 ho base 82 i z 1 8 Try.underlying58 hi hz0 hz1 hz2 hz3 (by omega) v n us hs hu ⟨g0, 0, none⟩ m c vs hx (by omega) (fun j u hj => by
    rw [show (⟨g0, 0, none⟩ : Addr).add j = ⟨g0, j, none⟩ by unfold Addr.add; split <;> simp_all]
    exact hnews j u hj) (fun u hu => by
    obtain ⟨k, hk, rfl⟩ := List.getElem_of_mem hu
    exact (hsv k _ (List.getElem?_eq_getElem hk)).one) hm (by simp only [maxLen]; omega) (by omega) hbase _ rfl ?_
  intro g cap w' hown hgr hgg hlt
  have hblk : ∀ k c t, t ≠ 82 → Blk W k c t → Blk w' k c t := fun k c t ht hb => by
    refine (hgr.block k hb.lt (fun e => ?_)).trans hb
    exact ht (own_type hu e.symm hb)
  refine hk _ _ _ ⟨us ++ vs, hown, by simp; omega, fun k u hk => ?_⟩ ⟨fun w0 h0 hW => ?_, hblk⟩
  · have hmap : ∀ s, SV W b s u → SV w' b s u := fun s h => h.map (fun k c t ht hb => hblk k c t (by rcases ht with rfl | rfl | rfl <;> decide) hb)
    unfold catS
    by_cases hlt : k < n
    · rw [if_pos hlt]
      rw [List.getElem?_append_left (by omega)] at hk
      exact hmap _ (hus k u hk)
    · rw [if_neg hlt]
      rw [List.getElem?_append_right (by omega), hul] at hk
      exact hmap _ (hsv _ u hk)
  · refine ⟨hgr.os.trans hW.os, hgr.tape.trans hW.tape, hgr.output.trans hW.output, Nat.le_trans hW.size hgr.size, fun k hk hn => ?_⟩
    have hkW : k < W.heap.size := Nat.lt_of_lt_of_le hk hW.size
    refine (hgr.block k hkW (fun e => ?_)).trans (hW.block k hk hn)
    have := (hu.lt k e.symm).1
    omega

set_option maxHeartbeats 8000000 in
set_option maxRecDepth 20000 in
theorem takeBack_j (w : World) (base b : Nat) (D : DS) (who : Nat → Nat) (R : Rep w base b D who) {r : Int} {i : Nat} (h : JI r D i) (old m : Nat) (T : Nat → Nat) (P : Nat → List UInt8) (hH : Hotv (seenOf D nmJ) old m T P) (hP : ∀ k, k < m → (P k).length = 256) (hT : Rise old m T) (ho : old ≤ 20) (hm : m ≤ 20) (hd : 256 * old ≤ (seenOf D nmD).length) (hi : i + (2 + (m + 4)) ≤ 20000) :
    Calls Try.prog 23 #[.agg #[.pointer (some ⟨b, 0, none⟩)]] w fun e w' => e = .returned (.int .i64 0) ∧ ∃ D' who', RM w D w' base b D' who' ∧ JI r D' (i + (2 + (m + 4))) ∧ seenOf D' = vw (seenOf D) (bakS (seenOf D) old m T P) (2 + (m + 4)) := by
  have hg0 := World.grownBy_alloc w (.cells #[.pointer (some ⟨b, 0, none⟩)] 53) none
  have hb0 : Blk (w.alloc (.cells #[.pointer (some ⟨b, 0, none⟩)] 53)) w.heap.size #[.pointer (some ⟨b, 0, none⟩)] 53 := alloc_new _ _
  have hj64 : 64 ≤ (seenOf D nmJ).length := by have := hH.len; omega
  have hok := bak_ok (seenOf D) (T := T) (P := P) hP hT ho hd hj64 r
  have HKp := hideJ (fun V (hV : w.grownBy V none) => kept_j V base b D who (R.keep hV) h old m T P hH hP hT (by omega) (by omega))
  have HRn : Hid (∀ V, w.grownBy V none → Calls Try.prog 36 #[.agg #[.pointer (some ⟨b, 0, none⟩)]] V fun e w' => (∃ v, e = .returned v ∧ StO w' V.heap.size b v 2 (renS (seenOf D nmJ))) ∧ V.grownBy w' none) := fun V hV => renew_j V base b D who (R.keep hV) h
  have HCh : Hid (∀ V p cap, PgA V p m (fun k => (T k : Int)) P → Calls Try.prog 27 #[.agg #[.pointer (some ⟨b, 0, none⟩)], .int .i64 (old : Int), .slice p m cap] V fun e w' => (∃ q c', e = .returned (.slice q (m + 4) c') ∧ StA w' b q (m + 4) (chgS old m T P)) ∧ V.grownBy w' none) := fun V p cap hp => change_j V b old (by omega) p m cap T P hp (by omega) (fun j hj => by have := hT.low j hj; omega)
  have HDo : Hid (∀ V q c', w.grownBy V none → StA V b q (2 + (m + 4)) (catS (renS (seenOf D nmJ)) 2 (chgS old m T P)) → Calls Try.prog 25 #[.slice q (2 + (m + 4)) c'] V fun e w' => e = .returned (.int .i64 0) ∧ ∃ D' who', RM V D w' base b D' who' ∧ JI r D' (i + (2 + (m + 4))) ∧ seenOf D' = vw (seenOf D) (bakS (seenOf D) old m T P) (2 + (m + 4))) := fun V q c' hV hst => by
    refine (do_any V base b D who (R.keep hV) h q (2 + (m + 4)) c' (bakS (seenOf D) old m T P) hst hi (fun k hk _ => (hok k hk).1)).mono ?_
    rintro e w' ⟨k, x, rfl, hF, hD⟩
    obtain ⟨rfl, rfl⟩ := hF.all (fun j hj => (hok j hj).2)
    exact ⟨rfl, hD⟩
  have HR := hideJ R
  have HM := hideJ hm
  have HG := hideJ hg0
  have HB := hideJ hb0
  have cb := box_cell hb0
  generalize vw (seenOf D) (bakS (seenOf D) old m T P) (2 + (m + 4)) = FIN at HDo ⊢
  generalize chgS old m T P = CS at HCh HDo
  generalize renS (seenOf D nmJ) = RS at HRn HDo
  clear R h hH hP hT ho hm hd hi hok hj64 hg0 hb0
  go_enter Try.func23, Try.ntmps23
  go_upto_region 4 with (first
    | (go_at_call 35; (with_reducible refine Calls.mono (HKp.out _ HG.out) ?_); rintro e w1 ⟨⟨q1, c1, rfl, hp1⟩, hg⟩; have HP1 := hideJ hp1; have HG1 := hideJ (grown_trans' HG.out hg); have HB1 := hideJ (Blk.grown HB.out hg); clear hg hp1))
  have HSG : Hid (∀ V, w1.drew.grownBy V none → V.cell? ⟨w.heap.size, 0, none⟩ = some (.pointer (some ⟨b, 0, none⟩))) := fun V hV => box_cell (Blk.grown (box_drew HB1.out) hV)
  have HS0 := hideJ (HSG.out _ (grown_refl _))
  have HD1 := hideJ (grown_trans' HG1.out (World.grownBy_drew w1))
  clear cb
  go_region_held3 (fun V => V.cell? ⟨w.heap.size, 0, none⟩ = some (.pointer (some ⟨b, 0, none⟩))) (first | with_reducible exact HS0.out | with_reducible exact HS1.out | with_reducible exact HS2.out | with_reducible exact HS3.out | with_reducible exact HS4.out) (first
    | (go_at_call 36; (with_reducible refine Calls.mono (HRn.out _ HD1.out) ?_); rintro e y1 ⟨⟨v1, rfl, hst⟩, hg⟩; obtain ⟨p1, k1, rfl, -⟩ := hst.form; have HSt := hideJ hst; have HY1 := hideJ hg; have HS1 := hideJ (HSG.out _ hg); clear hst hg)
    | (go_at_call 27; (with_reducible refine Calls.mono (HCh.out _ _ _ ((HP1.out.grown (World.grownBy_drew _)).grown HY1.out)) ?_); rintro e y2 ⟨⟨q2, c2, rfl, hsa⟩, hg⟩; have HSa := hideJ hsa; have HSt2 := hideJ (HSt.out.grown hg); have HY2 := hideJ (grown_trans' HY1.out hg); have HS2 := hideJ (HSG.out _ (grown_trans' HY1.out hg)); clear hsa hg)
    | (refine step_appG (base := w1.drew.heap.size) HSt2.out HSa.out (by omega) (by have := HM.out; omega) HY2.out.size _ _ (by rfl) (by rfl) (by rfl) (by rfl) ?_; intro p3 k3 w3 hst3 hap3; obtain ⟨q3, c3, e3, hA3⟩ := hst3.form; cases e3; have HA3 := hideJ hA3; have HG3 := hideJ (hap3.grown w HD1.out.size (grown_trans' HD1.out HY2.out)); have HS3 := hideJ (box_cell (hap3.box (Blk.grown (box_drew HB1.out) HY2.out))); have HB3 := hideJ (hap3.box (Blk.grown (box_drew HB1.out) HY2.out)); clear hst3 hap3 hA3)
    | (go_at_call 25; (with_reducible refine Calls.mono (HDo.out _ _ _ HG3.out HA3.out) ?_); rintro e y4 ⟨rfl, D4, who4, hR4, hJ4, hs4⟩; have HR4 := hideJ (((RM.start HR.out).grown HG3.out).trans hR4); have HJ4 := hideJ (And.intro hJ4 hs4); have HS4 := hideJ (box_cell (hR4.blk (HR.out.keep HG3.out) HB3.out okT53)); clear hR4 hJ4 hs4))
  all_goals (try go_wp2)
  go_ret
  exact ⟨rfl, D4, who4, HR4.out, HJ4.out.1, HJ4.out.2⟩
end Go.Proofs.Ytfcgjedanhmpiaa

namespace Go.Proofs.Ytfcgjedanhmpiaa
open Go.ChangeShapes Go.WideShapes Go.ChangeAt Go.RowKit
open Go.ChangeMaps (setBlock)
set_option linter.unusedVariables false

theorem Far.some {r : Int} {f : Vw} {S : Nat → Stp} {n k : Nat} {e : Int} (h : Far r f S n k e) (hf : ¬ ∀ j, j < n → (S j).fits r (vw f S j)) : k < n ∧ ¬ (S k).fits r (vw f S k) ∧ e = 5 := by
  rcases h.2.2 with ⟨h1, _⟩ | h1
  · exact absurd (fun j hj => h.2.1 j (by omega)) hf
  · exact h1
/-- How a commit ends. -/
structure Cmt (db : List UInt8) (f : Vw) (count n : Nat) (N : Nat → Nat) (L : Nat → List UInt8) (x : Int) : Prop where
  cold : hdw (f nmJ) 0 = 0
  how : (x = 0 ∧ Aft db (f nmD) count n N L) ∨ (x = 5 ∧ f nmD = db)
structure Cend (w : World) (D : DS) (base b : Nat) (r : Int) (i : Nat) (w' : World) (count n : Nat) (N : Nat → Nat) (L : Nat → List UInt8) (x : Int) : Prop where
  ex : ∃ D' who' i', RM w D w' base b D' who' ∧ JI r D' i' ∧ i' ≤ i + 100 ∧ Cmt (seenOf D nmD) (seenOf D') count n N L x

set_option maxHeartbeats 8000000 in
theorem commit_any (w : World) (base b : Nat) (D : DS) (who : Nat → Nat) (R : Rep w base b D who) {r : Int} {i : Nat} (h : JI r D i) (count old : Nat) (hold : (seenOf D nmD).length = 256 * old) (ho : old ≤ 15) (hcount : count ≤ 15) (p : Option Addr) (n cap : Nat) (N : Nat → Nat) (L : Nat → List UInt8) (hp : PgA w p n (fun k => (N k : Int)) L) (hL : ∀ j, j < n → (L j).length = 256) (hn : n ≤ 15) (hi : i ≤ 10000)
    (hmay : MayF old count n (fun k => (N k : Int))) (hN : Rise count n N) (hall : ∀ p, old < p → p ≤ count → ∃ j, j < n ∧ N j = p) (hcold : hdw (seenOf D nmJ) 0 = 0) :
    Calls Try.prog 8 #[.pointer (some ⟨b, 0, none⟩), .int .i64 (count : Int), .slice p n cap] w fun e w' => ∃ x : Int, e = .returned (.int .i64 x) ∧ Cend w D base b r i w' count n N L x := by
  obtain ⟨T, hT⟩ : ∃ T, T = touT old count n N := ⟨_, rfl⟩
  obtain ⟨P, hP⟩ : ∃ P : Nat → List UInt8, P = fun j => pgL (seenOf D nmD) (T j) := ⟨_, rfl⟩
  obtain ⟨m, hm⟩ : ∃ m, m = (touchL old count n N).length := ⟨_, rfl⟩
  have hrise := touT_rise (old := old) hN
  rw [← hT, ← hm] at hrise
  have hm15 : m ≤ 15 := by rw [hm]; exact Nat.le_trans (touch_few hN) ho
  have hP6 : ∀ k, k < m → (P k).length = 256 := fun k hk => by
    have := hrise.low k hk
    rw [hP]; exact pgL_length this.1 (by omega)
  have HG0 : Hid (w.grownBy (w.alloc (.cells #[.pointer (some ⟨b, 0, none⟩)] 53)) none) := World.grownBy_alloc w (.cells #[.pointer (some ⟨b, 0, none⟩)] 53) none
  have HB0 : Hid (Blk (w.alloc (.cells #[.pointer (some ⟨b, 0, none⟩)] 53)) w.heap.size #[.pointer (some ⟨b, 0, none⟩)] 53) := alloc_new _ _
  have HRf := hideJ (fun V (hV : w.grownBy V none) => refusal_j V base b D who (R.keep hV) h)
  have HCt : Hid (∀ V, w.grownBy V none → Calls Try.prog 9 #[.pointer (some ⟨b, 0, none⟩)] V fun e w' => e = .returned (.int .i64 (old : Int)) ∧ V.grownBy w' none) := fun V hV => by
    have := count_j V base b D who (R.keep hV) h
    rw [show (seenOf D nmD).length / 256 = old by omega] at this
    exact this
  have HMf : Hid (∀ V, w.grownBy V none → Calls Try.prog 24 #[.int .i64 (old : Int), .int .i64 (count : Int), .slice p n cap] V fun e w' => e = .returned (.bool true) ∧ V.grownBy w' none) := fun V hV => by
    have := mayFollow_j V (old : Int) (count : Int) (by omega) p n cap (fun k => (N k : Int)) L (hp.grown hV) (by omega)
    rw [mayB_iff.2 hmay] at this
    exact this
  have HHt := hideJ (fun V (hV : w.grownBy V none) => hot_j V base b D who (R.keep hV) h false (by rw [hcold]; rfl))
  have HAs := hideJ (fun V (hV : w.grownBy V none) => aside_any V base b D who (R.keep hV) h count old hold (by omega) p n cap N L (hp.grown hV) (by omega) hN T P m hT hP hm)
  obtain ⟨S1, hS1⟩ : ∃ S1, S1 = asdS (seenOf D nmJ) old m T P := ⟨_, rfl⟩
  have ok1 : ∀ k, k < 2 + m + 3 → (S1 k).ok (vw (seenOf D) S1 k) := by rw [hS1]; exact asd_ok (seenOf D) hP6 hm15
  have HR := hideJ R
  have HP := hideJ hp
  have HB53 := hideJ okT53
  by_cases f1 : ∀ j, j < 2 + m + 3 → (S1 j).fits r (vw (seenOf D) S1 j)
  · -- all is laid aside
    have HDo1 : Hid (∀ V q c', w.grownBy V none → StA V b q (2 + m + 3) S1 → Calls Try.prog 25 #[.slice q (2 + m + 3) c'] V fun e w' => e = .returned (.int .i64 0) ∧ ∃ D' who', RM V D w' base b D' who' ∧ JI r D' (i + (2 + m + 3)) ∧ seenOf D' = vw (seenOf D) S1 (2 + m + 3)) := fun V q c' hV hst => by
      refine (do_any V base b D who (R.keep hV) h q (2 + m + 3) c' S1 hst (by omega) (fun k hk _ => ok1 k hk)).mono ?_
      rintro e w' ⟨k, x, rfl, hF, hD⟩
      obtain ⟨rfl, rfl⟩ := hF.all f1
      exact ⟨rfl, hD⟩
    obtain ⟨F1, hF1⟩ : ∃ F1, F1 = vw (seenOf D) S1 (2 + m + 3) := ⟨_, rfl⟩
    have hF1D : F1 nmD = seenOf D nmD := by rw [hF1, hS1]; exact asd_db _ _
    have hF1J : Hotv (F1 nmJ) old m T P := by rw [hF1, hS1]; exact asd_end (seenOf D) hP6 (by omega) (by omega)
    have hJ64 : 64 ≤ (F1 nmJ).length := by have := hF1J.len; omega
    have hcx : 256 * count ≤ (F1 nmD).length ∨ ∃ j, j < n ∧ N j = count := by
      by_cases c : count ≤ old
      · exact .inl (by rw [hF1D]; omega)
      · exact .inr (hall count (by omega) (Nat.le_refl _))
    have ok2 := chg_ok F1 hL (fun j hj => ⟨(hN.low j hj).1, by have := (hN.low j hj).2; omega⟩) hcx (by omega)
    have hend := chg_end F1 hL (fun j hj => (hN.low j hj).1) hcx
    have HCh : Hid (∀ V, PgA V p n (fun k => (N k : Int)) L → Calls Try.prog 27 #[.agg #[.pointer (some ⟨b, 0, none⟩)], .int .i64 (count : Int), .slice p n cap] V fun e w' => (∃ q c', e = .returned (.slice q (n + 4) c') ∧ StA w' b q (n + 4) (chgS count n N L)) ∧ V.grownBy w' none) := fun V hV => change_j V b count (by omega) p n cap N L hV (by omega) (fun j hj => by have := hN.low j hj; omega)
    rw [← hF1] at HDo1
    by_cases f2 : ∀ j, j < n + 4 → (chgS count n N L j).fits r (vw F1 (chgS count n N L) j)
    · have HDo2 : Hid (∀ V D1 who1 q c', Rep V base b D1 who1 → JI r D1 (i + (2 + m + 3)) → seenOf D1 = F1 → StA V b q (n + 4) (chgS count n N L) → Calls Try.prog 25 #[.slice q (n + 4) c'] V fun e w' => e = .returned (.int .i64 0) ∧ ∃ D' who', RM V D1 w' base b D' who' ∧ JI r D' (i + (2 + m + 3) + (n + 4)) ∧ seenOf D' = vw F1 (chgS count n N L) (n + 4)) := fun V D1 who1 q c' hR hJ hs hst => by
        refine (do_any V base b D1 who1 hR hJ q (n + 4) c' (chgS count n N L) hst (by omega) (fun k hk _ => by rw [hs]; exact ok2 k hk)).mono ?_
        rintro e w' ⟨k, x, rfl, hF, hD⟩
        rw [hs] at hF
        obtain ⟨rfl, rfl⟩ := hF.all f2
        rw [hs] at hD
        exact ⟨rfl, hD⟩
      have HFin : Hid (∀ V D' who', RM w D V base b D' who' → JI r D' (i + (2 + m + 3) + (n + 4)) → seenOf D' = vw F1 (chgS count n N L) (n + 4) → Cend w D base b r i V count n N L 0) := fun V D' who' h1 h2 h3 => ⟨D', who', _, h1, h2, by omega, by rw [h3]; exact hend.2.1, .inl ⟨rfl, by rw [h3, ← hF1D]; exact hend.1⟩⟩
      rw [← hS1] at HAs
      generalize chgS count n N L = S2 at HCh HDo2 HFin
      clear R h hp hmay hcold hold hN hall hn hi hL hT hP hm hrise hm15 hP6 ok1 f1 f2 hF1 hF1D hF1J hJ64 hcx ok2 hend hS1 ho hcount
      go_enter Try.func8, Try.ntmps8
      go_wp2_with (first
        | (go_at_call 21; (with_reducible refine Calls.mono (HRf.out _ HG0.out) ?_); rintro e w1 ⟨rfl, hg⟩; have HG1 := hideJ (grown_trans' HG0.out hg); have HB1 := hideJ (Blk.grown HB0.out hg); clear hg)
        | (go_at_call 9; (with_reducible refine Calls.mono (HCt.out _ HG1.out) ?_); rintro e w2 ⟨rfl, hg⟩; have HG2 := hideJ (grown_trans' HG1.out hg); have HB2 := hideJ (Blk.grown HB1.out hg); clear hg)
        | (go_at_call 24; (with_reducible refine Calls.mono (HMf.out _ HG2.out) ?_); rintro e w3 ⟨rfl, hg⟩; have HG3 := hideJ (grown_trans' HG2.out hg); have HB3 := hideJ (Blk.grown HB2.out hg); clear hg)
        | (go_at_call 10; (with_reducible refine Calls.mono (HHt.out _ HG3.out) ?_); rintro e w4 ⟨rfl, hg⟩; have HG4 := hideJ (grown_trans' HG3.out hg); have HB4 := hideJ (Blk.grown HB3.out hg); have cb4 := box_cell HB4.out; clear hg)
        | (go_at_call 26; (with_reducible refine Calls.mono (HAs.out _ HG4.out) ?_); rintro e w5 ⟨⟨q5, c5, rfl, hst5⟩, hg⟩; have HG5 := hideJ (grown_trans' HG4.out hg); have HB5 := hideJ (Blk.grown HB4.out hg); have HS5 := hideJ hst5; clear hg hst5 cb4)
        | (go_at_call 25; (with_reducible refine Calls.mono (HDo1.out _ _ _ HG5.out HS5.out) ?_); rintro e w6 ⟨rfl, D6, who6, hR6, hJ6, hs6⟩; have HR6 := hideJ (((RM.start HR.out).grown HG5.out).trans hR6); have HJ6 := hideJ (And.intro hJ6 hs6); have HB6 := hideJ (hR6.blk (HR.out.keep HG5.out) HB5.out HB53.out); have cb6 := box_cell HB6.out; clear hR6 hJ6 hs6)
        | (go_at_call 27; (with_reducible refine Calls.mono (HCh.out _ (HP.out.moved HR.out HR6.out)) ?_); rintro e w7 ⟨⟨q7, c7, rfl, hst7⟩, hg⟩; have HR7 := hideJ (HR6.out.grown hg); have HS7 := hideJ hst7; clear hg hst7)
        | (go_at_call 25; (with_reducible refine Calls.mono (HDo2.out _ _ _ _ _ HR7.out.rep HJ6.out.1 HJ6.out.2 HS7.out) ?_); rintro e w8 ⟨rfl, D8, who8, hR8, hJ8, hs8⟩; have HC8 := hideJ (HFin.out _ _ _ (HR7.out.trans hR8) hJ8 hs8); clear hR8 hJ8 hs8))
      go_ret
      exact ⟨0, rfl, HC8.out⟩
    · have hstop : ∀ k, k < n + 4 → ¬ (chgS count n N L k).fits r (vw F1 (chgS count n N L) k) → k < n := fun k hk hnf => by
        rcases Nat.lt_or_ge k n with c | c
        · exact c
        · exact absurd (chg_fits F1 hL (fun j hj => (hN.low j hj).1) hJ64 k hk (.inl c)) hnf
      have HDo2 : Hid (∀ V D1 who1 q c', Rep V base b D1 who1 → JI r D1 (i + (2 + m + 3)) → seenOf D1 = F1 → StA V b q (n + 4) (chgS count n N L) → Calls Try.prog 25 #[.slice q (n + 4) c'] V fun e w' => e = .returned (.int .i64 5) ∧ ∃ k, k < n ∧ ∃ D' who', RM V D1 w' base b D' who' ∧ JI r D' (i + (2 + m + 3) + k) ∧ seenOf D' = vw F1 (pgS N L) k) := fun V D1 who1 q c' hR hJ hs hst => by
        refine (do_any V base b D1 who1 hR hJ q (n + 4) c' (chgS count n N L) hst (by omega) (fun k hk _ => by rw [hs]; exact ok2 k hk)).mono ?_
        rintro e w' ⟨k, x, rfl, hF, hD⟩
        rw [hs] at hF
        obtain ⟨g1, g2, rfl⟩ := hF.some f2
        have hkn := hstop k g1 g2
        rw [hs, chg_pgs F1 (Nat.le_of_lt hkn)] at hD
        exact ⟨rfl, k, hkn, hD⟩
      have HTb : Hid (∀ V D1 who1 k, k < n → Rep V base b D1 who1 → JI r D1 (i + (2 + m + 3) + k) → seenOf D1 = vw F1 (pgS N L) k → Calls Try.prog 23 #[.agg #[.pointer (some ⟨b, 0, none⟩)]] V fun e w' => e = .returned (.int .i64 0) ∧ ∃ D' who', RM V D1 w' base b D' who' ∧ (RM w D w' base b D' who' → Cend w D base b r i w' count n N L 5)) := fun V D1 who1 k hk hR hJ hs => by
        have hdb1 : (F1 nmD).length = 256 * old := by rw [hF1D]; exact hold
        have hb := bak_end F1 (old := old) hN hL (Nat.le_of_lt hk) hdb1 (seenOf D1) hs T P m hT (by rw [hF1D]; exact hP) hm
        refine (takeBack_j V base b D1 who1 hR hJ old m T P (by rw [hb.2.2.1]; exact hF1J) hP6 hrise (by omega) (by omega) hb.2.1 (by omega)).mono ?_
        rintro e w' ⟨rfl, D', who', g1, g2, g3⟩
        refine ⟨rfl, D', who', g1, fun hrm => ⟨D', who', _, hrm, g2, by omega, ?_, .inr ⟨rfl, ?_⟩⟩⟩
        · rw [g3]; exact hb.2.2.2.2
        · rw [g3, ← hF1D]; exact hb.2.2.2.1
      rw [← hS1] at HAs
      generalize chgS count n N L = S2 at HCh HDo2
      clear R h hp hmay hcold hold hN hall hn hi hL hT hP hm hrise hm15 hP6 ok1 f1 f2 hF1 hF1D hF1J hJ64 hcx ok2 hend hS1 ho hcount hstop
      go_enter Try.func8, Try.ntmps8
      go_wp2_with (first
        | (go_at_call 21; (with_reducible refine Calls.mono (HRf.out _ HG0.out) ?_); rintro e w1 ⟨rfl, hg⟩; have HG1 := hideJ (grown_trans' HG0.out hg); have HB1 := hideJ (Blk.grown HB0.out hg); clear hg)
        | (go_at_call 9; (with_reducible refine Calls.mono (HCt.out _ HG1.out) ?_); rintro e w2 ⟨rfl, hg⟩; have HG2 := hideJ (grown_trans' HG1.out hg); have HB2 := hideJ (Blk.grown HB1.out hg); clear hg)
        | (go_at_call 24; (with_reducible refine Calls.mono (HMf.out _ HG2.out) ?_); rintro e w3 ⟨rfl, hg⟩; have HG3 := hideJ (grown_trans' HG2.out hg); have HB3 := hideJ (Blk.grown HB2.out hg); clear hg)
        | (go_at_call 10; (with_reducible refine Calls.mono (HHt.out _ HG3.out) ?_); rintro e w4 ⟨rfl, hg⟩; have HG4 := hideJ (grown_trans' HG3.out hg); have HB4 := hideJ (Blk.grown HB3.out hg); have cb4 := box_cell HB4.out; clear hg)
        | (go_at_call 26; (with_reducible refine Calls.mono (HAs.out _ HG4.out) ?_); rintro e w5 ⟨⟨q5, c5, rfl, hst5⟩, hg⟩; have HG5 := hideJ (grown_trans' HG4.out hg); have HB5 := hideJ (Blk.grown HB4.out hg); have HS5 := hideJ hst5; clear hg hst5 cb4)
        | (go_at_call 25; (with_reducible refine Calls.mono (HDo1.out _ _ _ HG5.out HS5.out) ?_); rintro e w6 ⟨rfl, D6, who6, hR6, hJ6, hs6⟩; have HR6 := hideJ (((RM.start HR.out).grown HG5.out).trans hR6); have HJ6 := hideJ (And.intro hJ6 hs6); have HB6 := hideJ (hR6.blk (HR.out.keep HG5.out) HB5.out HB53.out); have cb6 := box_cell HB6.out; clear hR6 hJ6 hs6)
        | (go_at_call 27; (with_reducible refine Calls.mono (HCh.out _ (HP.out.moved HR.out HR6.out)) ?_); rintro e w7 ⟨⟨q7, c7, rfl, hst7⟩, hg⟩; have HR7 := hideJ (HR6.out.grown hg); have HB7 := hideJ (Blk.grown HB6.out hg); have HS7 := hideJ hst7; clear hg hst7 cb6)
        | (go_at_call 25; (with_reducible refine Calls.mono (HDo2.out _ _ _ _ _ HR7.out.rep HJ6.out.1 HJ6.out.2 HS7.out) ?_); rintro e w8 ⟨rfl, k8, hk8, D8, who8, hR8, hJ8, hs8⟩; have HR8 := hideJ (HR7.out.trans hR8); have HJ8 := hideJ (And.intro hk8 (And.intro hJ8 hs8)); have HB8 := hideJ (hR8.blk HR7.out.rep HB7.out HB53.out); have cb8 := box_cell HB8.out; clear hR8 hJ8 hs8 hk8)
        | (go_at_call 23; (with_reducible refine Calls.mono (HTb.out _ _ _ _ HJ8.out.1 HR8.out.rep HJ8.out.2.1 HJ8.out.2.2) ?_); rintro e w9 ⟨rfl, D9, who9, hR9, hC9⟩; have HC9 := hideJ (hC9 (HR8.out.trans hR9)); clear hR9 hC9))
      go_ret
      exact ⟨5, rfl, HC9.out⟩
  · -- the disk has no room for what is laid aside
    have HDo1 : Hid (∀ V q c', w.grownBy V none → RM w D V base b D who → StA V b q (2 + m + 3) S1 → Calls Try.prog 25 #[.slice q (2 + m + 3) c'] V fun e w' => e = .returned (.int .i64 5) ∧ Cend w D base b r i w' count n N L 5) := fun V q c' hV hrm hst => by
      refine (do_any V base b D who (R.keep hV) h q (2 + m + 3) c' S1 hst (by omega) (fun k hk _ => ok1 k hk)).mono ?_
      rintro e w' ⟨k, x, rfl, hF, D', who', g1, g2, g3⟩
      obtain ⟨q1, q2, rfl⟩ := hF.some f1
      rw [hS1] at q2 g3
      have hk := asd_stop (seenOf D) q1 q2
      refine ⟨rfl, D', who', _, hrm.trans g1, g2, by omega, ?_, .inr ⟨rfl, ?_⟩⟩
      · rw [g3, asd_cold (seenOf D) hP6 hk]; exact hcold
      · rw [g3]; exact asd_db _ _
    rw [← hS1] at HAs
    clear R h hp hmay hcold hold hN hall hn hi hL hT hP hm hrise hm15 hP6 ok1 f1 hS1 ho hcount
    go_enter Try.func8, Try.ntmps8
    go_wp2_with (first
      | (go_at_call 21; (with_reducible refine Calls.mono (HRf.out _ HG0.out) ?_); rintro e w1 ⟨rfl, hg⟩; have HG1 := hideJ (grown_trans' HG0.out hg); have HB1 := hideJ (Blk.grown HB0.out hg); clear hg)
      | (go_at_call 9; (with_reducible refine Calls.mono (HCt.out _ HG1.out) ?_); rintro e w2 ⟨rfl, hg⟩; have HG2 := hideJ (grown_trans' HG1.out hg); have HB2 := hideJ (Blk.grown HB1.out hg); clear hg)
      | (go_at_call 24; (with_reducible refine Calls.mono (HMf.out _ HG2.out) ?_); rintro e w3 ⟨rfl, hg⟩; have HG3 := hideJ (grown_trans' HG2.out hg); have HB3 := hideJ (Blk.grown HB2.out hg); clear hg)
      | (go_at_call 10; (with_reducible refine Calls.mono (HHt.out _ HG3.out) ?_); rintro e w4 ⟨rfl, hg⟩; have HG4 := hideJ (grown_trans' HG3.out hg); have HB4 := hideJ (Blk.grown HB3.out hg); have cb4 := box_cell HB4.out; clear hg)
      | (go_at_call 26; (with_reducible refine Calls.mono (HAs.out _ HG4.out) ?_); rintro e w5 ⟨⟨q5, c5, rfl, hst5⟩, hg⟩; have HG5 := hideJ (grown_trans' HG4.out hg); have HS5 := hideJ hst5; clear hg hst5 cb4)
      | (go_at_call 25; (with_reducible refine Calls.mono (HDo1.out _ _ _ HG5.out ((RM.start HR.out).grown HG5.out) HS5.out) ?_); rintro e w6 ⟨rfl, hc6⟩; have HC6 := hideJ hc6; clear hc6))
    go_ret
    exact ⟨5, rfl, HC6.out⟩
end Go.Proofs.Ytfcgjedanhmpiaa
