/- Pages that are to be changed, in memory; whether they may. -/
/- Steps appended to steps. -/
import Derived.Test.YtfcgjedanhmpiaaAJF
import Derived.Deep.AppendLies
namespace Go.Proofs.Ytfcgjedanhmpiaa
open Go.ChangeShapes Go.WideShapes Go.ChangeAt Go.RowKit
open Go.ChangeMaps (setBlock)
set_option linter.unusedVariables false

/-- A page with its number, as cells. -/
def pcl (n : Int) (l : List UInt8) : List Value := .int .i64 n :: bcs l
theorem pcl_length (n : Int) {l : List UInt8} (h : l.length = 256) : (pcl n l).length = 257 := by simp [pcl, length_bcs, h]
theorem pcl_one (n : Int) (l : List UInt8) : ∀ v ∈ pcl n l, v.oneCell' = true := by
  intro v hv
  rcases List.mem_cons.1 hv with rfl | hv
  · rfl
  · exact one_bcs l v hv
theorem info67 : (Try.prog.info? 67).map (·.size) = some 257 := by kernel_rfl
theorem u67 : ∃ d, Try.prog.underlying 67 = some d ∧ d.isRow = true := ⟨_, Try.underlying67, rfl⟩
/-- Pages in memory. -/
def PgA (w : World) (p : Option Addr) (n : Nat) (N : Nat → Int) (L : Nat → List UInt8) : Prop := 0 < n → ∃ g, ∃ cur : Array Value, p = some ⟨g, 0, none⟩ ∧ Blk w g cur 67 ∧ ∀ k, k < n → (L k).length = 256 ∧ w.rangeAt g (k * 257) (pcl (N k) (L k))
theorem range_blk {w w' : World} {g o : Nat} {cs : List Value} {cur : Array Value} {t : TypeId} (h : w.rangeAt g o cs) (hb : Blk w g cur t) (hb' : Blk w' g cur t) : w'.rangeAt g o cs := fun j v hv => by
  have := h j v hv
  rw [hb.cell] at this
  rw [hb'.cell]; exact this
theorem PgA.moved {w w' : World} {base b : Nat} {D D' : DS} {who who' : Nat → Nat} {p : Option Addr} {n : Nat} {N : Nat → Int} {L : Nat → List UInt8} (h : PgA w p n N L) (R : Rep w base b D who) (hm : RM w D w' base b D' who') : PgA w' p n N L := fun h0 => by
  obtain ⟨g, cur, e, hb, hc⟩ := h h0
  have hb' := hm.blk R hb (by unfold OkT; decide)
  exact ⟨g, cur, e, hb', fun k hk => ⟨(hc k hk).1, range_blk (hc k hk).2 hb hb'⟩⟩
theorem PgA.grown {w w' : World} {p : Option Addr} {n : Nat} {N : Nat → Int} {L : Nat → List UInt8} (h : PgA w p n N L) (hg : w.grownBy w' none) : PgA w' p n N L := fun h0 => by
  obtain ⟨g, cur, e, hb, hc⟩ := h h0
  exact ⟨g, cur, e, hb.grown hg, fun k hk => ⟨(hc k hk).1, range_blk (hc k hk).2 hb (hb.grown hg)⟩⟩
theorem wp_load67 {ops : Array Oper} {rest : List Oper} {o : Oper} {a : Act} {Q : Exit → Act → World → Prop} {w : World} {g k : Nat} {n : Int} {l : List UInt8} (h : l.length = 256) (hg : w.rangeAt g k (pcl n l)) (x : Operand)
    (hgd : o.guard = none) (ho : o.op = .load 67 x) (hx : a.eval x = .pointer (some ⟨g, k, none⟩)) (hk : wpList Try.prog ops Q rest (a.put o.dst (.agg (pcl n l).toArray)) w) : wpList Try.prog ops Q (o :: rest) a w := by
  obtain ⟨d, hd, hr⟩ := u67
  exact wpList_load_mid hgd 67 x ho g k hx (pcl n l) d hg hd hr (by rw [pcl_length n h]; exact info67) hk
theorem size67 {n : Int} {l : List UInt8} (h : l.length = 256) : (Try.prog.info? 67).map (·.size) = some (pcl n l).toArray.size := by rw [List.size_toArray, pcl_length n h]; exact info67
theorem pcl_all (n : Int) (l : List UInt8) : (pcl n l).toArray.all (·.oneCell') = true := all_oneCell_toArray (pcl_one n l)
theorem new67 (V : World) : ∃ z : Array Value, z.size = 257 ∧ Blk (V.alloc (.cells Try.zeroCells67 67)) V.heap.size z 67 := ⟨Try.zeroCells67, by kernel_rfl, alloc_new _ _⟩
/-- The page ahead. -/
def lastN (N : Nat → Int) : Nat → Int
  | 0 => 0
  | k + 1 => N k
/-- How many are added. -/
def addN (N : Nat → Int) (old : Int) : Nat → Nat
  | 0 => 0
  | k + 1 => addN N old k + if old < N k then 1 else 0
theorem addN_le (N : Nat → Int) (old : Int) : ∀ k, addN N old k ≤ k
  | 0 => Nat.le_refl _
  | k + 1 => by have := addN_le N old k; simp only [addN]; split <;> omega
def MayF (old count : Int) (n : Nat) (N : Nat → Int) : Prop := (0 ≤ count ∧ count ≤ 4096) ∧ (∀ j, j < n → lastN N j < N j ∧ N j ≤ count) ∧ (addN N old n : Int) = max (count - old) 0

noncomputable def mayB (old count : Int) (n : Nat) (N : Nat → Int) : Bool := @decide (MayF old count n N) (Classical.propDecidable _)
theorem mayB_iff {old count : Int} {n : Nat} {N : Nat → Int} : mayB old count n N = true ↔ MayF old count n N := by unfold mayB; exact @decide_eq_true_iff _ (Classical.propDecidable _)
theorem mayB_not {old count : Int} {n : Nat} {N : Nat → Int} (h : ¬ MayF old count n N) : mayB old count n N = false := by
  cases hb : mayB old count n N with
  | false => rfl
  | true => exact absurd (mayB_iff.1 hb) h
theorem mayB_end {old count : Int} {n : Nat} {N : Nat → Int} (h0 : 0 ≤ count ∧ count ≤ 4096) (h1 : ∀ j, j < n → lastN N j < N j ∧ N j ≤ count) : mayB old count n N = decide ((addN N old n : Int) = max (count - old) 0) := by
  by_cases h : (addN N old n : Int) = max (count - old) 0
  · rw [mayB_iff.2 ⟨h0, h1, h⟩, decide_eq_true h]
  · rw [mayB_not (fun hm => h hm.2.2), decide_eq_false h]
theorem grown_refl (w : World) : w.grownBy w none := ⟨rfl, rfl, rfl, Nat.le_refl _, fun _ _ _ => rfl⟩
set_option maxHeartbeats 2000000 in
theorem mayFollow_j (w : World) (old count : Int) (ho : 0 ≤ old ∧ old ≤ 10000) (p : Option Addr) (n cap : Nat) (N : Nat → Int) (L : Nat → List UInt8) (hp : PgA w p n N L) (hn : n ≤ 10000) :
    Calls Try.prog 24 #[.int .i64 old, .int .i64 count, .slice p n cap] w fun e w' => e = .returned (.bool (mayB old count n N)) ∧ w.grownBy w' none := by
  have HP := hideJ hp
  have HO := hideJ ho
  have HN := hideJ hn
  clear hp ho hn
  by_cases c0 : count < 0
  · go_enter Try.func24, Try.ntmps24
    go_wp2
    go_ret
    exact ⟨by rw [mayB_not (fun h => by have := h.1; omega)]; rfl, grown_refl _⟩
  by_cases c1 : 4096 < count
  · go_enter Try.func24, Try.ntmps24
    go_wp2
    go_ret
    exact ⟨by rw [mayB_not (fun h => by have := h.1; omega)]; rfl, grown_refl _⟩
  go_enter Try.func24, Try.ntmps24
  go_wp2
  go_loopw [7, 8, 19] (fun lv av iv wr => ∃ j : Nat, j ≤ n ∧ iv = .int .i64 (j : Int) ∧ lv = .int .i64 (lastN N j) ∧ av = .int .i64 (addN N old j : Int) ∧ w.grownBy wr none ∧ ∀ i, i < j → lastN N i < N i ∧ N i ≤ count) (fun _ _ iv _ => n - (intOf iv).toNat)
  case atStart => exact ⟨0, Nat.zero_le _, rfl, rfl, rfl, grown_refl _, fun i hi => by omega⟩
  case round =>
    obtain ⟨j, hj, rfl, rfl, rfl, hg, hno⟩ := hrel
    have HG := hideJ hg
    have HNo := hideJ hno
    clear hg hno
    by_cases hlt : j < n
    · obtain ⟨g, cur, rfl, hb, hc⟩ := (HP.out.grown HG.out) (by omega)
      have HRg := hideJ (hc j hlt)
      obtain ⟨z, hz, hZ⟩ := new67 wr
      have HZ := hideJ hZ
      have HZs := hideJ hz
      have HI := hideJ (size67 (n := N j) (hc j hlt).1)
      have HSz : Hid ((pcl (N j) (L j)).toArray.size = z.size) := by show _ = _; rw [List.size_toArray, pcl_length _ (hc j hlt).1, hz]
      have HA := hideJ (pcl_all (N j) (L j))
      have l1 : (j : Int) < (n : Int) := by omega
      have l0 : (0 : Int) ≤ (j : Int) := by omega
      have hw1 : IntKind.i64.wrap ((j : Int) + 1) = (j : Int) + 1 := by have := HN.out; rw [IntKind.wrap_i64]; omega
      have hw2 : IntKind.i64.wrap ((addN N old j : Int) + 1) = (addN N old j : Int) + 1 := by have := HN.out; have := addN_le N old j; rw [IntKind.wrap_i64]; omega
      have HK := hideJ hlt
      clear hb hc hZ hz
      by_cases e1 : N j ≤ lastN N j
      · go_wp2_with (first
          | ((with_reducible refine at67L ?_); refine wp_load67 HRg.out.1 HRg.out.2 _ (by rfl) (by rfl) (by rfl) ?_)
          | ((with_reducible refine at67S ?_); refine wp_storeB (c := (pcl (N j) (L j)).toArray) HI.out HSz.out HA.out HZ.out _ _ (by rfl) (by rfl) (by rfl) (by rfl) ?_; intro W5 hb5 ho5; have HG5 := hideJ (grown_only (grown_trans' HG.out (World.grownBy_alloc _ _ _)) ho5 HG.out.size); have cN := (Blk.cell hb5 0).trans (show _ = some (Value.int .i64 (N j)) from rfl); clear hb5 ho5))
        go_ret
        exact ⟨by rw [mayB_not (fun h => by have := (h.2.1 j HK.out).1; omega)]; rfl, HG5.out⟩
      by_cases e2 : count < N j
      · go_wp2_with (first
          | ((with_reducible refine at67L ?_); refine wp_load67 HRg.out.1 HRg.out.2 _ (by rfl) (by rfl) (by rfl) ?_)
          | ((with_reducible refine at67S ?_); refine wp_storeB (c := (pcl (N j) (L j)).toArray) HI.out HSz.out HA.out HZ.out _ _ (by rfl) (by rfl) (by rfl) (by rfl) ?_; intro W5 hb5 ho5; have HG5 := hideJ (grown_only (grown_trans' HG.out (World.grownBy_alloc _ _ _)) ho5 HG.out.size); have cN := (Blk.cell hb5 0).trans (show _ = some (Value.int .i64 (N j)) from rfl); clear hb5 ho5))
        go_ret
        exact ⟨by rw [mayB_not (fun h => by have := (h.2.1 j HK.out).2; omega)]; rfl, HG5.out⟩
      have HNx : Hid (∀ i, i < j + 1 → lastN N i < N i ∧ N i ≤ count) := fun i hi => by
        by_cases e : i = j
        · subst e; exact ⟨by omega, by omega⟩
        · exact HNo.out i (by omega)
      by_cases e3 : old < N j
      · have HAd : Hid (addN N old (j + 1) = addN N old j + 1) := by show addN N old j + (if old < N j then 1 else 0) = _; rw [if_pos e3]
        go_wp2_with (first
          | ((with_reducible refine at67L ?_); refine wp_load67 HRg.out.1 HRg.out.2 _ (by rfl) (by rfl) (by rfl) ?_)
          | ((with_reducible refine at67S ?_); refine wp_storeB (c := (pcl (N j) (L j)).toArray) HI.out HSz.out HA.out HZ.out _ _ (by rfl) (by rfl) (by rfl) (by rfl) ?_; intro W5 hb5 ho5; have HG5 := hideJ (grown_only (grown_trans' HG.out (World.grownBy_alloc _ _ _)) ho5 HG.out.size); have cN := (Blk.cell hb5 0).trans (show _ = some (Value.int .i64 (N j)) from rfl); clear hb5 ho5))
        refine ⟨⟨j + 1, HK.out, rfl, rfl, ?_, HG5.out, HNx.out⟩, ?_⟩
        · rw [HAd.out]; rfl
        · simp only [intOf]; have := HK.out; omega
      · have HAd : Hid (addN N old (j + 1) = addN N old j) := by show addN N old j + (if old < N j then 1 else 0) = _; rw [if_neg e3]; rfl
        go_wp2_with (first
          | ((with_reducible refine at67L ?_); refine wp_load67 HRg.out.1 HRg.out.2 _ (by rfl) (by rfl) (by rfl) ?_)
          | ((with_reducible refine at67S ?_); refine wp_storeB (c := (pcl (N j) (L j)).toArray) HI.out HSz.out HA.out HZ.out _ _ (by rfl) (by rfl) (by rfl) (by rfl) ?_; intro W5 hb5 ho5; have HG5 := hideJ (grown_only (grown_trans' HG.out (World.grownBy_alloc _ _ _)) ho5 HG.out.size); have cN := (Blk.cell hb5 0).trans (show _ = some (Value.int .i64 (N j)) from rfl); clear hb5 ho5))
        refine ⟨⟨j + 1, HK.out, rfl, rfl, ?_, HG5.out, HNx.out⟩, ?_⟩
        · rw [HAd.out]
        · simp only [intOf]; have := HK.out; omega
    · obtain rfl : j = n := by omega
      have hw3 : IntKind.i64.wrap (count - old) = count - old := by have := HO.out; rw [IntKind.wrap_i64]; omega
      have HCc := hideJ (And.intro c0 c1)
      have HE := hideJ (mayB_end (old := old) (n := j) (show 0 ≤ count ∧ count ≤ 4096 by omega) HNo.out)
      have HQ : Hid (∀ m : Int, m = max (count - old) 0 → Ending.returned (Value.bool ((addN N old j : Int) == m)) = Ending.returned (Value.bool (mayB old count j N))) := fun m hm => by rw [HE.out, hm]; rfl
      go_wp2
      all_goals go_ret
      all_goals exact ⟨HQ.out _ (by omega), HG.out⟩
end Go.Proofs.Ytfcgjedanhmpiaa

namespace Go.Proofs.Ytfcgjedanhmpiaa
open Go.ChangeShapes Go.WideShapes Go.ChangeAt Go.RowKit
open Go.ChangeMaps (setBlock)
set_option linter.unusedVariables false

def catS (S : Nat → Stp) (n : Nat) (S' : Nat → Stp) : Nat → Stp := fun k => if k < n then S k else S' (k - n)
theorem infoF : ∃ i z, Try.prog.info? 82 = some i ∧ i.zero = some z ∧ i.size = 1 ∧ i.bytes = 8 ∧ z.cells.size = 1 := by
  have h : (Try.prog.info? 82).map (fun i => (i.zero.map (fun z => z.cells.size), i.size, i.bytes)) = some (some 1, 1, 8) := by kernel_rfl
  obtain ⟨i, h1, h2⟩ := Option.map_eq_some_iff.1 h
  simp only [Prod.mk.injEq] at h2
  obtain ⟨z, h3, h4⟩ := Option.map_eq_some_iff.1 h2.1
  exact ⟨i, z, h1, h3, h2.2.1, h2.2.2, h4⟩
/-- What an append leaves alone. -/
structure App (base : Nat) (W w' : World) : Prop where
  grown : ∀ w0 : World, w0.heap.size ≤ base → w0.grownBy W none → w0.grownBy w' none
  blk : ∀ k c t, t ≠ 82 → Blk W k c t → Blk w' k c t
theorem mkPut {V : World} {b at_ a1 a2 a3 a4 : Nat} {nm d : ByteArray} (h : Blk V a1 #[.pointer (some ⟨b, 0, none⟩)] 53 ∧ Blk V a2 #[.string nm] 9 ∧ Blk V a3 #[.int .i64 (at_ : Int)] 3 ∧ Blk V a4 #[.string d] 9) : SV V b (.put nm at_ d) (fun4 53 a1 a2 a3 a4) := ⟨a1, a2, a3, a4, rfl, h⟩
theorem mkCut {V : World} {b n a1 a2 a3 : Nat} {nm : ByteArray} (h : Blk V a1 #[.pointer (some ⟨b, 0, none⟩)] 53 ∧ Blk V a2 #[.string nm] 9 ∧ Blk V a3 #[.int .i64 (n : Int)] 3) : SV V b (.cut nm n) (fun3 58 a1 a2 a3) := ⟨a1, a2, a3, rfl, h⟩
theorem mkSync {V : World} {b a1 a2 : Nat} {nm : ByteArray} (h : Blk V a1 #[.pointer (some ⟨b, 0, none⟩)] 53 ∧ Blk V a2 #[.string nm] 9) : SV V b (.sync nm) (fun2 55 a1 a2) := ⟨a1, a2, rfl, h⟩
theorem App.box {base : Nat} {W w' : World} (h : App base W w') {k b : Nat} (hb : Blk W k #[.pointer (some ⟨b, 0, none⟩)] 53) : Blk w' k #[.pointer (some ⟨b, 0, none⟩)] 53 := h.blk _ _ _ (by decide) hb
theorem App.pg {base : Nat} {W w' : World} (h : App base W w') {k : Nat} {c : Array Value} (hb : Blk W k c 67) : Blk w' k c 67 := h.blk _ _ _ (by decide) hb
theorem box_cell {w : World} {k b : Nat} (hb : Blk w k #[.pointer (some ⟨b, 0, none⟩)] 53) : w.cell? ⟨k, 0, none⟩ = some (.pointer (some ⟨b, 0, none⟩)) := (hb.cell 0).trans rfl
theorem box_drew {w : World} {k b : Nat} (hb : Blk w k #[.pointer (some ⟨b, 0, none⟩)] 53) : Blk w.drew k #[.pointer (some ⟨b, 0, none⟩)] 53 := hb
theorem step_appF {ops : Array Oper} {o : Oper} {a : Act} {K : Act → World → Prop} {Q : Exit → Act → World → Prop} {E : Prop} {W : World} {base b n m : Nat} {v : Value} {S S' : Nat → Stp} (vs : List Value) (hst : StO W base b v n S) (hvs : vs.length = m) (hm : 0 < m)
    (hsv : ∀ k u, vs[k]? = some u → SV W b (S' k) u) (hone : ∀ u ∈ vs, u.oneCell' = true) (hn : n + m ≤ 1000) (hbase : base ≤ W.heap.size) (s x : Operand) (hgd : o.guard = none) (ho : o.op = .call { callee := .builtin .append, args := #[s, x], argTypes := #[58, 58] })
    (hs : a.eval s = v) (hx : a.eval x = .slice (some ⟨W.heap.size, 0, none⟩) m m)
    (hk : ∀ p cap w', StO w' base b (.slice p (n + m) cap) (n + m) (catS S n S') → App base W w' → K (a.put o.dst (.slice p (n + m) cap)) w') :
    if Region.wanted o (yielded ops a.tmps) = true then Oper.wp Try.prog o a (W.alloc (.cells vs.toArray 82)) K Q else E := by
  obtain ⟨i, z, hi, hz0, hz1, hz2, hz3⟩ := infoF
  obtain ⟨us, hu, hul, hus⟩ := hst
  have hg0 := World.grownBy_alloc W (.cells vs.toArray 82) none
  have hu2 := hu.alloc (.cells vs.toArray 82)
  have hnews : ∀ j u, vs[j]? = some u → (W.alloc (.cells vs.toArray 82)).cell? ((⟨W.heap.size, 0, none⟩ : Addr).add j) = some u := fun j u hj => by
    rw [show (⟨W.heap.size, 0, none⟩ : Addr).add j = ⟨W.heap.size, j, none⟩ by unfold Addr.add; split <;> simp_all]
    have hb : Blk (W.alloc (.cells vs.toArray 82)) W.heap.size vs.toArray 82 := alloc_new _ _
    rw [hb.cell]; simpa using hj
  refine step_append_lies (w := W.alloc (.cells vs.toArray 82)) hgd s x 58 ho base 82 i z 1 8 Try.underlying58 hi hz0 hz1 hz2 hz3 (by omega) v n us hs hu2 ⟨W.heap.size, 0, none⟩ m m vs hx (by omega) hnews hone hm (by simp only [maxLen]; omega) (by omega) (by simp; omega) _ rfl ?_
  intro g cap w' hown hgr hgg hlt
  have hblk : ∀ k c t, t ≠ 82 → Blk W k c t → Blk w' k c t := fun k c t ht hb => by
    refine (hgr.block k (by have := hb.lt; simp; omega) (fun e => ?_)).trans ((Below.heap_alloc _ _ _ hb.lt).trans hb)
    exact ht (own_type hu e.symm hb)
  refine hk _ _ _ ⟨us ++ vs, hown, by simp; omega, fun k u hk => ?_⟩ ⟨fun w0 h0 hW => ?_, hblk⟩
  · have hmap : ∀ s, SV W b s u → SV w' b s u := fun s h => h.map (fun k c t ht hb => hblk k c t (by rcases ht with rfl | rfl | rfl <;> decide) hb)
    unfold catS
    by_cases hlt : k < n
    · rw [if_pos hlt]
      rw [List.getElem?_append_left (by omega)] at hk
      exact hmap _ (hus k u hk)
    · rw [if_neg hlt]
      rw [List.getElem?_append_right (by omega), hul] at hk
      exact hmap _ (hsv _ u hk)
  · refine ⟨hgr.os.trans hW.os, hgr.tape.trans hW.tape, hgr.output.trans hW.output, Nat.le_trans hW.size (Nat.le_trans (by simp) hgr.size), fun k hk hn => ?_⟩
    have hkW : k < W.heap.size := Nat.lt_of_lt_of_le hk hW.size
    refine (hgr.block k (by simp; omega) (fun e => ?_)).trans ((Below.heap_alloc _ _ _ hkW).trans (hW.block k hk hn))
    have := (hu.lt k e.symm).1
    omega

set_option maxHeartbeats 1000000 in
theorem touched_none (w : World) (old count : Int) (ho : 0 ≤ old ∧ old ≤ count ∧ count ≤ 10000) (p : Option Addr) (n cap : Nat) (N : Nat → Int) (L : Nat → List UInt8) (hp : PgA w p n N L) (hn : n ≤ 10000) (hN : ∀ j, j < n → old < N j) :
    Calls Try.prog 37 #[.int .i64 old, .int .i64 count, .slice p n cap] w fun e w' => e = .returned (.slice none 0 0) ∧ w.grownBy w' none := by
  have HP := hideJ hp
  have HN := hideJ hN
  have HL := hideJ hn
  have hw0 : IntKind.i64.wrap (count + 1) = count + 1 := by rw [IntKind.wrap_i64]; omega
  have l9 : ¬ count + 1 ≤ old := by omega
  clear hp hN hn
  go_enter Try.func37, Try.ntmps37
  go_wp2
  go_loopw [7, 13] (fun sv iv wr => ∃ j : Nat, j ≤ n ∧ iv = .int .i64 (j : Int) ∧ sv = .slice none 0 0 ∧ w.grownBy wr none) (fun _ iv _ => n - (intOf iv).toNat)
  case atStart => exact ⟨0, Nat.zero_le _, rfl, rfl, grown_refl _⟩
  case round =>
    obtain ⟨j, hj, rfl, rfl, hg⟩ := hrel
    have HG := hideJ hg
    clear hg
    by_cases hlt : j < n
    · obtain ⟨g, cur, rfl, hb, hc⟩ := (HP.out.grown HG.out) (by omega)
      have HRg := hideJ (hc j hlt)
      obtain ⟨z, hz, hZ⟩ := new67 wr
      have HZ := hideJ hZ
      have HI := hideJ (size67 (n := N j) (hc j hlt).1)
      have HSz : Hid ((pcl (N j) (L j)).toArray.size = z.size) := by show _ = _; rw [List.size_toArray, pcl_length _ (hc j hlt).1, hz]
      have HA := hideJ (pcl_all (N j) (L j))
      have l1 : (j : Int) < (n : Int) := by omega
      have l0 : (0 : Int) ≤ (j : Int) := by omega
      have hw1 : IntKind.i64.wrap ((j : Int) + 1) = (j : Int) + 1 := by have := HL.out; rw [IntKind.wrap_i64]; omega
      have l2 : ¬ N j ≤ old := by have := HN.out j hlt; omega
      have HK := hideJ hlt
      clear hb hc hZ hz
      go_wp2_with (first
          | ((with_reducible refine at67L ?_); refine wp_load67 HRg.out.1 HRg.out.2 _ (by rfl) (by rfl) (by rfl) ?_)
          | ((with_reducible refine at67S ?_); refine wp_storeB (c := (pcl (N j) (L j)).toArray) HI.out HSz.out HA.out HZ.out _ _ (by rfl) (by rfl) (by rfl) (by rfl) ?_; intro W5 hb5 ho5; have HG5 := hideJ (grown_only (grown_trans' HG.out (World.grownBy_alloc _ _ _)) ho5 HG.out.size); have cN := (Blk.cell hb5 0).trans (show _ = some (Value.int .i64 (N j)) from rfl); clear hb5 ho5))
      refine ⟨⟨j + 1, HK.out, rfl, rfl, HG5.out⟩, ?_⟩
      simp only [intOf]; have := HK.out; omega
    · obtain rfl : j = n := by omega
      go_wp2
      go_loopw [7, 10] (fun sv iv wq => sv = .slice none 0 0 ∧ iv = .int .i64 (count + 1) ∧ wq = wr) (fun _ _ _ => 0)
      case atStart => exact ⟨rfl, rfl, rfl⟩
      case round =>
        obtain ⟨rfl, rfl, rfl⟩ := hrel
        go_wp2
        go_ret
        exact ⟨rfl, HG.out⟩
end Go.Proofs.Ytfcgjedanhmpiaa
