/- What a hot journal keeps. -/
/- A hot journal is taken back. -/
import Derived.Test.YtfcgjedanhmpiaaAKF
namespace Go.Proofs.Ytfcgjedanhmpiaa
open Go.ChangeShapes Go.WideShapes Go.ChangeAt Go.RowKit
open Go.ChangeMaps (setBlock)
set_option linter.unusedVariables false

theorem rowsC_one {C : Nat → List Value} {k : Nat} : rowsC C (k + 1) = rowsC C k ++ C k := rfl
/-- Pages in a row of their own. -/
def PgO (w : World) (base : Nat) (v : Value) (k : Nat) (T : Nat → Int) (P : Nat → List UInt8) : Prop := ∃ q c, v = .slice q k c ∧ w.ownsRow base 67 257 v k (rowsC (fun j => pcl (T j) (P j)) k)
theorem PgO.step {w : World} {base g cap k : Nat} {T : Nat → Int} {P : Nat → List UInt8} (h : w.ownsRow base 67 257 (.slice (some ⟨g, 0, none⟩) (k + 1) cap) (k + 1) (rowsC (fun j => pcl (T j) (P j)) k ++ pcl (T k) (P k))) : PgO w base (.slice (some ⟨g, 0, none⟩) (k + 1) cap) (k + 1) T P :=
  ⟨_, _, rfl, h⟩
theorem mulLe {j m k : Nat} (h : j < m) : k * j + k ≤ k * m := by
  have := Nat.mul_le_mul_left k h
  rw [Nat.mul_succ] at this
  exact this
/-- The number ahead. -/
def lastT (T : Nat → Nat) : Nat → Nat
  | 0 => 0
  | k + 1 => T k
theorem lastT_lt {old m : Nat} {T : Nat → Nat} (h : Rise old m T) {k : Nat} (hk : k < m) : lastT T k < T k := by
  cases k with
  | zero => exact (h.low 0 hk).1
  | succ k => exact h.up k (k + 1) (by omega) hk

set_option maxHeartbeats 8000000 in
set_option maxRecDepth 20000 in
theorem kept_j (w : World) (base b : Nat) (D : DS) (who : Nat → Nat) (R : Rep w base b D who) {r : Int} {i : Nat} (h : JI r D i) (old m : Nat) (T : Nat → Nat) (P : Nat → List UInt8) (hH : Hotw (seenOf D nmJ) old m T P) (hP : ∀ k, k < m → (P k).length = 256) (hT : Rise old m T) (ho : old ≤ 4096) (hm : m ≤ 4096) :
    Calls Try.prog 35 #[.agg #[.pointer (some ⟨b, 0, none⟩)]] w fun e w' => (∃ q c, e = .returned (.tuple #[.int .i64 (old : Int), .slice q m c, .bool true]) ∧ PgA w' q m (fun k => (T k : Int)) P) ∧ w.grownBy w' none := by
  obtain ⟨e0, e1, e2, e3⟩ := hH.hd
  have hg0 := World.grownBy_alloc w (.cells #[.pointer (some ⟨b, 0, none⟩)] 53) none
  have hb0 : Blk (w.alloc (.cells #[.pointer (some ⟨b, 0, none⟩)] 53)) w.heap.size #[.pointer (some ⟨b, 0, none⟩)] 53 := alloc_new _ _
  have HHd : Hid (∀ V, w.grownBy V none → Calls Try.prog 29 #[.agg #[.pointer (some ⟨b, 0, none⟩)]] V fun e w' => e = .returned (.agg #[.int .u32 ((m : Int) + 1), .int .u32 (old : Int), .int .u32 0, .int .u32 0]) ∧ V.grownBy w' none) := fun V hV => by
    have := head_j V base b D who (R.keep hV) h
    rw [hd_eq, e0, e1, e2, e3] at this
    exact this
  have hlen := h.len nmJ
  have hHl := hH.len
  have HRd : Hid (∀ k V, k < m → w.grownBy V none → Calls Try.prog 33 #[.pointer (some ⟨b, 0, none⟩), .string nmJ, .int .i64 ((64 + 320 * k : Nat) : Int), .int .i64 320] V fun e w' => e = .returned (.tuple #[.string (bstr (recB (T k) (P k))), .int .i64 0]) ∧ V.grownBy w' none) := fun k V hk hV => by
    have h1 := mulLe (k := 320) hk
    have := Read_in V base b D who (R.keep hV) h.down nmJ (64 + 320 * k) 320 (by omega) (by omega) (by omega)
    rw [show ((seenOf D nmJ).drop (64 + 320 * k)).take 320 = recB (T k) (P k) from hH.recs k hk] at this
    exact this
  have HRs := hideJ (fun k V (hk : k < m) => recordStart_j V k (by omega))
  have HRr := hideJ (fun k V (hk : k < m) => readRecord_j V (T k) (by have := (hT.low k hk).2; omega) (P k) (hP k hk))
  have HPl := hideJ hP
  have HTl := hideJ (fun k (hk : k < m) => And.intro (lastT_lt hT hk) (hT.low k hk).2)
  have hw0 : IntKind.i64.wrap ((m : Int) + 1) = (m : Int) + 1 := by rw [IntKind.wrap_i64]; omega
  have hwm : IntKind.i64.wrap (m : Int) = (m : Int) := by rw [IntKind.wrap_i64]; omega
  have hw2 : IntKind.i64.wrap (old : Int) = (old : Int) := by rw [IntKind.wrap_i64]; omega
  have t0 : ¬ (4097 : Int) < (m : Int) + 1 := by omega
  have t1 : ¬ (4096 : Int) < (old : Int) := by omega
  have HG := hideJ hg0
  have HB := hideJ hb0
  have cb := box_cell hb0
  have HM := hideJ (And.intro ho hm)
  clear R h hg0 hb0 hH hP hT ho hm hlen hHl e0 e1 e2 e3
  go_enter Try.func35, Try.ntmps35
  go_upto_region 4 with (first
    | (go_at_call 29; (with_reducible refine Calls.mono (HHd.out _ HG.out) ?_); rintro e w1 ⟨rfl, hg⟩; have HG1 := hideJ (grown_trans' HG.out hg); have HB1 := hideJ (Blk.grown HB.out hg); clear hg))
  have HG2 := hideJ (grown_trans' HG1.out (World.grownBy_alloc w1 (.cells #[.int .u32 ((m : Int) + 1), .int .u32 (old : Int), .int .u32 0, .int .u32 0] 63) none))
  have HB2 : Hid (Blk (w1.alloc (.cells #[.int .u32 ((m : Int) + 1), .int .u32 (old : Int), .int .u32 0, .int .u32 0] 63)) w.heap.size #[.pointer (some ⟨b, 0, none⟩)] 53) := Blk.grown HB1.out (World.grownBy_alloc _ _ _)
  have HH2 : Hid (Blk (w1.alloc (.cells #[.int .u32 ((m : Int) + 1), .int .u32 (old : Int), .int .u32 0, .int .u32 0] 63)) w1.heap.size #[.int .u32 ((m : Int) + 1), .int .u32 (old : Int), .int .u32 0, .int .u32 0] 63) := alloc_new _ _
  go_name_world W hW
  rw [hW] at HG2 HB2 HH2
  clear hW
  have HS0 : Hid (W.drew.cell? ⟨w1.heap.size, 0, none⟩ = some (.int .u32 ((m : Int) + 1)) ∧ W.drew.cell? ⟨w1.heap.size, 1, none⟩ = some (.int .u32 (old : Int))) := ⟨(HH2.out.cell 0).trans rfl, (HH2.out.cell 1).trans rfl⟩
  go_region_held3 (fun V => V.cell? ⟨w1.heap.size, 0, none⟩ = some (.int .u32 ((m : Int) + 1)) ∧ V.cell? ⟨w1.heap.size, 1, none⟩ = some (.int .u32 (old : Int))) (with_reducible exact HS0.out) (fail)
  all_goals (try go_wp2)
  clear cb t0 t1 hw0
  go_loopw [8, 9, 43] (fun pv lv iv wq => ∃ k : Nat, k ≤ m ∧ iv = .int .i64 (k : Int) ∧ lv = .int .i64 (lastT T k : Int) ∧ PgO wq W.heap.size pv k (fun j => (T j : Int)) P ∧ W.grownBy wq none) (fun _ _ iv _ => m - (intOf iv).toNat)
  case atStart => exact ⟨0, Nat.zero_le _, rfl, rfl, ⟨none, 0, rfl, World.ownsRow_nil _ _ _ _⟩, World.grownBy_drew W⟩
  case round =>
    obtain ⟨k, hk, rfl, rfl, ⟨q, c', rfl, hown⟩, hg⟩ := hrel
    have HOw := hideJ hown
    have HWk := hideJ hg
    have HGk := hideJ (grown_trans' HG2.out hg)
    have HBk := hideJ (Blk.grown HB2.out hg)
    clear hown hg
    by_cases hlt : k < m
    · have l1 : (k : Int) < (m : Int) := by omega
      have l0 : (0 : Int) ≤ (k : Int) := by omega
      have hw1 : IntKind.i64.wrap ((k : Int) + 1) = (k : Int) + 1 := by have := HM.out; rw [IntKind.wrap_i64]; omega
      have HK := hideJ hlt
      have HPk := hideJ (HPl.out k hlt)
      have HRsk := hideJ (fun V => HRs.out k V hlt)
      have HRdk := hideJ (fun V hV => HRd.out k V hlt hV)
      have HRrk := hideJ (fun V => HRr.out k V hlt)
      have v1 : ¬ (T k : Int) ≤ (lastT T k : Int) := by have := (HTl.out k hlt).1; omega
      have v2 : ¬ (old : Int) < (T k : Int) := by have := (HTl.out k hlt).2; omega
      obtain ⟨A, hAA⟩ : ∃ A, A = 64 + 320 * k := ⟨_, rfl⟩
      obtain ⟨X, hX⟩ : ∃ X, X = bstr (recB (T k) (P k)) := ⟨_, rfl⟩
      rw [← hAA] at HRsk HRdk
      rw [← hX] at HRdk HRrk
      clear hAA hX
      go_upto_region 10 with fail
      have HSG : Hid (∀ V, wr.drew.grownBy V none → V.cell? ⟨w.heap.size, 0, none⟩ = some (.pointer (some ⟨b, 0, none⟩))) := fun V hV => box_cell (Blk.grown (box_drew HBk.out) hV)
      have HS1 := hideJ (HSG.out _ (grown_refl _))
      have HD := hideJ (grown_trans' HGk.out (World.grownBy_drew wr))
      go_region_held3 (fun V => V.cell? ⟨w.heap.size, 0, none⟩ = some (.pointer (some ⟨b, 0, none⟩))) (first | with_reducible exact HS1.out | with_reducible exact HS2.out) (first
        | (go_at_call 40; (with_reducible refine Calls.mono (HRsk.out _) ?_); rintro e y1 ⟨rfl, rfl⟩)
        | (go_at_call 33; (with_reducible refine Calls.mono (HRdk.out _ HD.out) ?_); rintro e y2 ⟨rfl, hg⟩; have HY2 := hideJ (grown_drew_then hg); have HS2 := hideJ (HSG.out _ hg); clear hg))
      have HOy := hideJ (own_grown HOw.out HY2.out)
      have HWy := hideJ (grown_trans' HWk.out HY2.out)
      have HI := hideJ (size67 (n := (T k : Int)) HPk.out)
      have HA := hideJ (pcl_all (T k : Int) (P k))
      have HN67 := hideJ new67
      have HPs : Hid ((pcl (T k : Int) (P k)).toArray.size = 257) := by show _ = _; rw [List.size_toArray, pcl_length _ HPk.out]
      have HPn : Hid ((pcl (T k : Int) (P k)).length = 1 * 257) := by show _ = _; rw [pcl_length _ HPk.out]
      have HP1 := hideJ (pcl_one (T k : Int) (P k))
      go_wp2_with (first
        | (go_at_call 52; (with_reducible refine Calls.mono (HRrk.out _) ?_); rintro e y3 ⟨rfl, hg⟩; obtain ⟨z3, hz3, hZ3⟩ := HN67.out y3; have HZ3 := hideJ hZ3; have HZs := hideJ (HPs.out.trans hz3.symm); have HO3 := hideJ (own_grown HOy.out hg); have HNe := hideJ (own_ne HO3.out (Nat.le_refl _)); have HW3 := hideJ (grown_trans' HWy.out hg); clear hg hz3 hZ3)
        | ((with_reducible refine at67S ?_); refine wp_storeB (c := (pcl (T k : Int) (P k)).toArray) HI.out HZs.out HA.out HZ3.out _ _ (by rfl) (by rfl) (by rfl) (by rfl) ?_; intro W5 hb5 ho5; have HB5 := hideJ hb5; have HG5 := hideJ (grown_only (World.grownBy_alloc y3 _ none) ho5 (Nat.le_refl _)); have HW5 := hideJ (grown_trans' HW3.out HG5.out); have HO5 := hideJ (own_grown HO3.out HG5.out); have cN := (Blk.cell hb5 0).trans (show _ = some (Value.int .i64 (T k : Int)) from rfl); clear hb5 ho5)
        | ((with_reducible refine at67L ?_); refine wp_load67 HPk.out (range_of_blk2 HB5.out) _ (by rfl) (by rfl) (by rfl) ?_)
        | ((with_reducible refine atBs22 ?_); refine wp_bs1 (X := (pcl (T k : Int) (P k)).toArray) Try.underlying22 infoE67 (by omega) (by omega) HPs.out _ (by rfl) (by rfl) (by rfl) ?_)
        | ((with_reducible refine atApp22 ?_); refine wp_appE (m := 1) Try.underlying22 infoE67 (by omega) (by omega) (pcl (T k : Int) (P k)) HPn.out (by omega) HP1.out HO5.out (by have := HM.out; have := HK.out; omega) HW5.out.size _ _ (by rfl) (by rfl) (by rfl) (by rfl) ?_; intro g6 cap6 w6 hown6 hap6; have HO6 := hideJ hown6; have HW6 := hideJ (hap6.grown W (Nat.le_refl _) HW5.out); have cN6 := (Blk.cell (hap6.other _ _ _ HNe.out HB5.out) 0).trans (show _ = some (Value.int .i64 (T k : Int)) from rfl); clear hown6 hap6))
      refine ⟨⟨k + 1, HK.out, rfl, rfl, PgO.step HO6.out, HW6.out⟩, ?_⟩
      simp only [intOf]; have := HK.out; omega
    · obtain rfl : k = m := by omega
      obtain ⟨q5, c5, e5, hA⟩ := own_PgA HPl.out HOw.out
      cases e5
      have HAk := hideJ hA
      clear hA
      go_wp2
      refine bodyPost_ret (v := .tuple #[.int .i64 (old : Int), .slice q k c', .bool true]) (by simp [results, Try.results35, go_sem]) rfl ?_
      exact ⟨⟨q, ⟨c', rfl⟩, HAk.out⟩, HGk.out⟩
end Go.Proofs.Ytfcgjedanhmpiaa

namespace Go.Proofs.Ytfcgjedanhmpiaa
open Go.ChangeShapes Go.WideShapes Go.ChangeAt Go.RowKit
open Go.ChangeMaps (setBlock)
set_option linter.unusedVariables false

theorem SV.one {w : World} {b : Nat} {s : Stp} {v : Value} (h : SV w b s v) : v.oneCell' = true := by
  cases s with
  | put nm at_ d => obtain ⟨k1, k2, k3, k4, rfl, _⟩ := h; rfl
  | cut nm n => obtain ⟨k1, k2, k3, rfl, _⟩ := h; rfl
  | sync nm => obtain ⟨k1, k2, rfl, _⟩ := h; rfl
theorem StA.list {w : World} {b m : Nat} {q : Option Addr} {S : Nat → Stp} (h : StA w b q m S) (hm : 0 < m) : ∃ g, ∃ vs : List Value, q = some ⟨g, 0, none⟩ ∧ vs.length = m ∧ (∀ j u, vs[j]? = some u → w.cell? ⟨g, j, none⟩ = some u) ∧ ∀ k u, vs[k]? = some u → SV w b (S k) u := by
  obtain ⟨g, cur, e, hb, hc⟩ := h hm
  have hsz : m ≤ cur.toList.length := by
    obtain ⟨v, hv, _⟩ := hc (m - 1) (by omega)
    have := (Array.getElem?_eq_some_iff.1 hv).1
    simp
    omega
  have hg : ∀ k u, (cur.toList.take m)[k]? = some u → k < m ∧ cur[k]? = some u := fun k u hk => by
    rw [List.getElem?_take] at hk
    by_cases c : k < m
    · rw [if_pos c, Array.getElem?_toList] at hk
      exact ⟨c, hk⟩
    · rw [if_neg c] at hk; cases hk
  refine ⟨g, cur.toList.take m, e, by rw [List.length_take]; omega, fun j u hj => ?_, fun k u hk => ?_⟩
  · rw [Blk.cell hb]; exact (hg j u hj).2
  · obtain ⟨h1, h2⟩ := hg k u hk
    obtain ⟨v, hv, hs⟩ := hc k h1
    rw [hv] at h2
    cases h2
    exact hs
theorem step_appG {ops : Array Oper} {o : Oper} {a : Act} {K : Act → World → Prop} {Q : Exit → Act → World → Prop} {E : Prop} {W : World} {base b n m c : Nat} {v : Value} {q : Option Addr} {S S' : Nat → Stp} (hst : StO W base b v n S) (hA : StA W b q m S') (hm : 0 < m) (hn : n + m ≤ 1000) (hbase : base ≤ W.heap.size) (s x : Operand) (hgd : o.guard = none)
    (ho : o.op = .call { callee := .builtin .append, args := #[s, x], argTypes := #[58, 58] }) (hs : a.eval s = v) (hx : a.eval x = .slice q m c)
    (hk : ∀ p cap w', StO w' base b (.slice p (n + m) cap) (n + m) (catS S n S') → App base W w' → K (a.put o.dst (.slice p (n + m) cap)) w') :
    if Region.wanted o (yielded ops a.tmps) = true then Oper.wp Try.prog o a W K Q else E := by
  obtain ⟨i, z, hi, hz0, hz1, hz2, hz3⟩ := infoF
  obtain ⟨us, hu, hul, hus⟩ := hst
  obtain ⟨g0, vs, rfl, hvs, hnews, hsv⟩ := hA.list hm
  refine step_append_lies (w := W) hgd s x 58 ho base 82 i z 1 8 Try.underlying58 hi hz0 hz1 hz2 hz3 (by omega) v n us hs hu ⟨g0, 0, none⟩ m c vs hx (by omega) (fun j u hj => by
    rw [show (⟨g0, 0, none⟩ : Addr).add j = ⟨g0, j, none⟩ by unfold Addr.add; split <;> simp_all]
    exact hnews j u hj) (fun u hu => by
    obtain ⟨k, hk, rfl⟩ := List.getElem_of_mem hu
    exact (hsv k _ (List.getElem?_eq_getElem hk)).one) hm (by simp only [maxLen]; omega) (by omega) hbase _ rfl ?_
  intro g cap w' hown hgr hgg hlt
  have hblk : ∀ k c t, t ≠ 82 → Blk W k c t → Blk w' k c t := fun k c t ht hb => by
    refine (hgr.block k hb.lt (fun e => ?_)).trans hb
    exact ht (own_type hu e.symm hb)
  refine hk _ _ _ ⟨us ++ vs, hown, by simp; omega, fun k u hk => ?_⟩ ⟨fun w0 h0 hW => ?_, hblk⟩
  · have hmap : ∀ s, SV W b s u → SV w' b s u := fun s h => h.map (fun k c t ht hb => hblk k c t (by rcases ht with rfl | rfl | rfl <;> decide) hb)
    unfold catS
    by_cases hlt : k < n
    · rw [if_pos hlt]
      rw [List.getElem?_append_left (by omega)] at hk
      exact hmap _ (hus k u hk)
    · rw [if_neg hlt]
      rw [List.getElem?_append_right (by omega), hul] at hk
      exact hmap _ (hsv _ u hk)
  · refine ⟨hgr.os.trans hW.os, hgr.tape.trans hW.tape, hgr.output.trans hW.output, Nat.le_trans hW.size hgr.size, fun k hk hn => ?_⟩
    have hkW : k < W.heap.size := Nat.lt_of_lt_of_le hk hW.size
    refine (hgr.block k hkW (fun e => ?_)).trans (hW.block k hk hn)
    have := (hu.lt k e.symm).1
    omega

end Go.Proofs.Ytfcgjedanhmpiaa
