/- The frames of a commit. -/
/- The frames of a commit: framesOf. -/
import Derived.Test.YteocmhbllckpjaaGreatXA
import Derived.Test.YteocmhbllckpjaaGreatV4
namespace Go.Proofs.YteocmhbllckpjaaGreat
open Go.ChangeShapes Go.WideShapes Go.ChangeAt Go.RowKit
open Go.ChangeMaps (setBlock)
set_option linter.unusedVariables false

/-- A row of frames in memory. -/
def FrM (W : World) (g n : Nat) (F : Nat → List Value) : Prop := ∃ cur : Array Value, Blk W g cur 167 ∧ cur.size = n * 259 ∧ ∀ j, j < n → (F j).length = 259 ∧ ∀ i, i < 259 → cur[j * 259 + i]? = (F j)[i]?
theorem FrM.range {W : World} {g n : Nat} {F : Nat → List Value} (h : FrM W g n F) {j : Nat} (hj : j < n) : W.rangeAt g (j * 259) (F j) := fun i v hv => by
  obtain ⟨cur, hb, hs, hc⟩ := h
  have hi : i < 259 := by have := (List.getElem?_eq_some_iff.1 hv).1; rw [(hc j hj).1] at this; exact this
  rw [hb.cell, (hc j hj).2 i hi]; exact hv
theorem FrM.grown {W W' : World} {g n : Nat} {F : Nat → List Value} (h : FrM W g n F) (hg : W.grownBy W' none) : FrM W' g n F := by
  obtain ⟨cur, hb, hs, hc⟩ := h
  exact ⟨cur, hb.grown hg, hs, hc⟩
theorem FrM.only {W W' : World} {g n k : Nat} {F : Nat → List Value} (h : FrM W g n F) (ho : Only [k] W W') (hk : g ≠ k) : FrM W' g n F := by
  obtain ⟨cur, hb, hs, hc⟩ := h
  exact ⟨cur, only_blk hb ho hk, hs, hc⟩
theorem FrM.lt {W : World} {g n : Nat} {F : Nat → List Value} (h : FrM W g n F) : g < W.heap.size := h.choose_spec.1.lt
theorem FrM.congr {W : World} {g n : Nat} {F G : Nat → List Value} (h : FrM W g n F) (e : ∀ j, j < n → F j = G j) : FrM W g n G := by
  obtain ⟨cur, hb, hs, hc⟩ := h
  exact ⟨cur, hb, hs, fun j hj => by rw [← e j hj]; exact hc j hj⟩
theorem made_get (z : Array Value) (n k : Nat) (hk : k < n) (hz : 0 < z.size) : (madeCells z n)[k]? = z[k % z.size]? := by
  unfold madeCells
  rw [Array.getElem?_map, Array.getElem?_range, if_pos hk, Option.map_some]
  have := Nat.mod_lt k hz
  rw [Array.getElem?_eq_getElem this, getElem!_pos z (k % z.size) this]
theorem made100 (V : World) (n : Nat) (hn : n ≤ 100) : (Instr.makeSlice 100 (.int .i64 (n : Int)) (.int .i64 (n : Int))).run Tryz.prog V = .ok (.slice (some ⟨V.heap.size, 0, none⟩) n n) (V.alloc (.cells (madeCells Tryz.zeroCells167 (n * 259)) 167)) ∧
    FrM (V.alloc (.cells (madeCells Tryz.zeroCells167 (n * 259)) 167)) V.heap.size n (fun _ => fcl 0 z256 0 false) := by
  have hinf : (Tryz.prog.info? 167).map (fun i => (i.size, i.bytes)) = some (259, 272) := by kernel_rfl
  have hz : (Tryz.prog.info? 167).map (·.zero) = some (some (.agg Tryz.zeroCells167)) := by kernel_rfl
  obtain ⟨i, h1, h2⟩ := Option.map_eq_some_iff.1 hinf
  rw [h1] at hz
  have hz2 : i.zero = some (.agg Tryz.zeroCells167) := by simpa using hz
  simp only [Prod.mk.injEq] at h2
  have := run_makeSlice (P := Tryz.prog) V 100 167 i (.agg Tryz.zeroCells167) Tryz.underlying100 h1 hz2 .i64 .i64 (n : Int) (n : Int) (by omega) (by omega) (by rw [h2.1]; omega) (by rw [h2.2]; omega) (by omega)
  refine ⟨?_, ?_⟩
  · rw [this, h2.1, Int.toNat_natCast]; rfl
  · refine ⟨_, alloc_new _ _, size_madeCells _ _, fun j hj => ⟨fcl_length 0 0 false z256_length, fun i hi => ?_⟩⟩
    rw [made_get _ _ _ (by omega) (by rw [zs167]; omega), zs167, Nat.mul_comm, Nat.mul_add_mod, Nat.mod_eq_of_lt hi, ← Array.getElem?_toList, zero167]
theorem apart259 {j k i off l : Nat} (e : ¬ j = k) (hi : i < 259) (ho : off + l ≤ 259) (c : ¬ j * 259 + i < k * 259 + off) : ¬ j * 259 + i < k * 259 + off + l := by
  have step : ∀ a b : Nat, a < b → a * 259 + 259 ≤ b * 259 := fun a b h => by
    have := Nat.mul_le_mul_right 259 (Nat.succ_le_of_lt h)
    rwa [Nat.succ_mul] at this
  rcases Nat.lt_or_gt_of_ne e with lt | lt
  · have h1 := step j k lt
    exact absurd (Nat.lt_of_lt_of_le (Nat.add_lt_add_left hi _) (Nat.le_trans h1 (Nat.le_add_right _ _))) c
  · have h1 := step k j lt
    exact Nat.not_lt.2 (Nat.le_trans (by rw [Nat.add_assoc]; exact Nat.add_le_add_left ho _) (Nat.le_trans h1 (Nat.le_add_right _ _)))
theorem FrM.put {W W' : World} {g n k off : Nat} {F : Nat → List Value} {cs : List Value} (h : FrM W g n F) (hk : k < n) (ho : off + cs.length ≤ 259) (hb' : ∀ cur, Blk W g cur 167 → Blk W' g (splice cur.toList (k * 259 + off) cs).toArray 167) : FrM W' g n (fun j => if j = k then splice (F k) off cs else F j) := by
  obtain ⟨cur, hb, hs, hc⟩ := h
  have hcl : cur.toList.length = n * 259 := by rw [Array.length_toList, hs]
  have hl : k * 259 + off + cs.length ≤ cur.toList.length := by rw [hcl]; omega
  refine ⟨_, hb' cur hb, by rw [List.size_toArray, length_splice _ _ _ hl, hcl], fun j hj => ?_⟩
  have hcj := hc j hj
  show ((if j = k then splice (F k) off cs else F j) : List Value).length = 259 ∧ ∀ i, i < 259 → (splice cur.toList (k * 259 + off) cs).toArray[j * 259 + i]? = (if j = k then splice (F k) off cs else F j : List Value)[i]?
  by_cases e : j = k
  · subst e
    rw [if_pos rfl]
    refine ⟨by rw [length_splice _ _ _ (by rw [hcj.1]; omega)]; exact hcj.1, fun i hi => ?_⟩
    rw [List.getElem?_toArray, splice_get _ _ _ hl, splice_get _ _ _ (by rw [hcj.1]; omega), Array.getElem?_toList, hcj.2 i hi]
    by_cases c1 : i < off
    · rw [if_pos (by omega), if_pos c1]
    · rw [if_neg (by omega), if_neg c1]
      by_cases c2 : i < off + cs.length
      · rw [if_pos (by omega), if_pos c2]; congr 1; omega
      · rw [if_neg (by omega), if_neg c2]
  · rw [if_neg e]
    refine ⟨hcj.1, fun i hi => ?_⟩
    rw [List.getElem?_toArray, splice_get _ _ _ hl, Array.getElem?_toList, hcj.2 i hi]
    by_cases c1 : j * 259 + i < k * 259 + off
    · rw [if_pos c1]
    · rw [if_neg c1, if_neg (apart259 e hi ho c1)]
theorem frm_store {ops : Array Oper} {rest : List Oper} {o : Oper} {a : Act} {Q : Exit → Act → World → Prop} {W : World} {g n k off : Nat} {t : TypeId} {F : Nat → List Value} {cs : List Value} (hB : FrM W g n F) (hk : k < n) (hoff : off + cs.length ≤ 259) (hi : (Tryz.prog.info? t).map (·.size) = some cs.toArray.size) (h1 : cs.toArray.all (·.oneCell') = true) (x y : Operand)
    (hgd : o.guard = none) (hop : o.op = .store t x y) (hx : a.eval x = .pointer (some ⟨g, k * 259 + off, none⟩)) (hy : a.eval y = .agg cs.toArray)
    (h : ∀ W', FrM W' g n (fun j => if j = k then splice (F k) off cs else F j) → Only [g] W W' → wpList Tryz.prog ops Q rest (a.put o.dst undef) W') : wpList Tryz.prog ops Q (o :: rest) a W := by
  have hB2 := hB
  obtain ⟨cur, hb, hs, hc⟩ := hB
  have hth : W.there g (k * 259 + off) cs.toArray.size := fun j hj => ⟨by rw [List.size_toArray] at hj; rw [hb.cell, Array.getElem?_eq_getElem (by omega)]; rfl, hb.frozen _⟩
  refine wpList_store_mid hgd t x y hop g (k * 259 + off) cs.toArray hx hy hth hi h1 ?_
  rw [List.toList_toArray]
  refine h _ (hB2.put hk hoff (fun cur' hb' => setCells_blk (w := W) cs (k * 259 + off) W cur' hb' ?_)) (setCells_only g cs (k * 259 + off) W)
  have : cur' = cur := by
    have := (show W.heap[g]? = _ from hb').symm.trans (show W.heap[g]? = _ from hb)
    simpa using this
  rw [this, hs]; omega
theorem fcl_splice (n : Int) {p : List UInt8} (m : Int) {q : List UInt8} (e : Nat) (pl : Bool) (hp : p.length = 256) (hq : q.length = 256) : splice (fcl n p e pl) 0 (pcl m q) = fcl m q e pl := by
  unfold splice fcl
  rw [List.take_zero, List.nil_append, Nat.zero_add, pcl_length m hq]
  unfold pcl
  rw [show (257 : Nat) = 256 + 1 from rfl, List.drop_succ_cons, List.drop_append_of_le_length (by rw [length_bcs, hp]; omega), List.drop_of_length_le (by rw [length_bcs, hp]; omega), List.nil_append, List.cons_append]

/-- The cells of the frames of a commit, while they are laid. -/
def frJ (N : Nat → Int) (L : Nat → List UInt8) (j : Nat) : Nat → List Value := fun k => if k < j then fcl (N k) (L k) 0 false else fcl 0 z256 0 false
/-- The frames of a commit: their numbers, their pages, their ends. -/
def fN (n : Nat) (N : Nat → Nat) (k : Nat) : Nat := if k < n then N k else 0
def fP (n : Nat) (L : Nat → List UInt8) (k : Nat) : List UInt8 := if k < n then L k else z256
def fE (m c : Nat) (k : Nat) : Nat := if k + 1 < m then 0 else c + 1

theorem at157S {P : Program} {ops : Array Oper} {Q : Exit → Act → World → Prop} {d : Option Tmp} {x y : Operand} {ty : TypeId} {pos : String} {af : Array Edge} {gd : Option (Nat × Bool)} {rest : List Oper} {a : Act} {w : World} (h : wpList P ops Q ({ dst := d, op := .store 157 x y, type := ty, pos := pos, after := af, guard := gd } :: rest) a w) : wpList P ops Q ({ dst := d, op := .store 157 x y, type := ty, pos := pos, after := af, guard := gd } :: rest) a w := h
end Go.Proofs.YteocmhbllckpjaaGreat

namespace Go.Proofs.YteocmhbllckpjaaGreat
open Go.ChangeShapes Go.WideShapes Go.ChangeAt Go.RowKit
open Go.ChangeMaps (setBlock)
set_option linter.unusedVariables false

theorem set_splice (c : Array Value) (i : Nat) (v : Value) (h : i < c.size) : c.setIfInBounds i v = (splice c.toList i [v]).toArray := by
  apply Array.ext_getElem?
  intro j
  have e0 : (splice c.toList i [v]).toArray[j]? = (splice c.toList i [v])[j]? := by simp
  rw [e0, splice_get _ _ _ (by simp; omega), Array.getElem?_toList, Array.getElem?_setIfInBounds]
  by_cases e : i = j
  · subst e
    rw [if_pos rfl, if_pos h, if_neg (by omega), if_pos (by simp)]
    simp
  · rw [if_neg e]
    by_cases c1 : j < i
    · rw [if_pos c1]
    · rw [if_neg c1, if_neg (by simp; omega)]
theorem FrM.set1 {W : World} {g n k off : Nat} {F : Nat → List Value} (h : FrM W g n F) (hk : k < n) (ho : off < 259) (v : Value) : FrM (W.setCell ⟨g, k * 259 + off, none⟩ v) g n (fun j => if j = k then splice (F k) off [v] else F j) := by
  refine h.put hk (by simp; omega) (fun cur hb => ?_)
  have hs : cur.size = n * 259 := by
    obtain ⟨cur', hb', hs', _⟩ := h
    have : cur = cur' := by
      have := (show W.heap[g]? = _ from hb).symm.trans (show W.heap[g]? = _ from hb')
      simpa using this
    rw [this]; exact hs'
  have hlt : k * 259 + off < cur.size := by
    have := Nat.mul_le_mul_right 259 (Nat.succ_le_of_lt hk)
    rw [Nat.succ_mul] at this
    rw [hs]
    exact Nat.lt_of_lt_of_le (Nat.add_lt_add_left ho _) this
  rw [← set_splice cur _ v hlt]
  exact Blk.set hb (k * 259 + off) v
theorem frJ_step {N : Nat → Int} {L : Nat → List UInt8} {j : Nat} (h : (L j).length = 256) : (fun k => if k = j then splice (frJ N L j j) 0 (pcl (N j) (L j)) else frJ N L j k) = frJ N L (j + 1) := by
  funext k
  unfold frJ
  by_cases e : k = j
  · subst e
    rw [if_pos rfl, if_neg (by omega), if_pos (by omega), fcl_splice _ _ _ _ z256_length h]
  · rw [if_neg e]
    by_cases c : k < j
    · rw [if_pos c, if_pos (by omega)]
    · rw [if_neg c, if_neg (by omega)]
theorem frJ_end {N : Nat → Nat} {L : Nat → List UInt8} {n m c : Nat} (hm : m = max n 1) (hL : ∀ k, k < n → (L k).length = 256) (k : Nat) (hk : k < m) : (if k = m - 1 then splice (frJ (fun k => (N k : Int)) L n (m - 1)) 257 [.int .u32 ((c + 1 : Nat) : Int)] else frJ (fun k => (N k : Int)) L n k) = fcl (fN n N k : Int) (fP n L k) (fE m c k) false := by
  have hg : frJ (fun k => (N k : Int)) L n k = fcl (fN n N k : Int) (fP n L k) 0 false := by
    unfold frJ fN fP
    split <;> rfl
  have hp : (fP n L k).length = 256 := by
    unfold fP
    split
    · exact hL k (by assumption)
    · exact z256_length
  by_cases e : k = m - 1
  · rw [if_pos e, ← e, hg, splice_end _ _ _ _ hp]
    unfold fE
    rw [if_neg (by omega)]
  · rw [if_neg e, hg]
    unfold fE
    rw [if_pos (by omega)]

set_option maxHeartbeats 4000000 in
set_option maxRecDepth 20000 in
theorem framesOf_zero (w : World) (c : Nat) (hc : c ≤ 4096) (p : Option Addr) (cap : Nat) (N : Nat → Nat) (L : Nat → List UInt8) :
    Calls Tryz.prog 47 #[.int .i64 (c : Int), .slice p 0 cap] w fun e w' => (∃ g, e = .returned (.slice (some ⟨g, 0, none⟩) 1 1) ∧ w.heap.size ≤ g ∧ FrM w' g 1 (fun k => fcl (fN 0 N k : Int) (fP 0 L k) (fE 1 c k) false)) ∧ w.grownBy w' none := by
  have hmk : (Instr.makeSlice 100 (.int .i64 1) (.int .i64 1)).run Tryz.prog w = .ok (.slice (some ⟨w.heap.size, 0, none⟩) 1 1) (w.alloc (.cells (madeCells Tryz.zeroCells167 (1 * 259)) 167)) := (made100 w 1 (by omega)).1
  have hF0 := (made100 w 1 (by omega)).2
  have HG0 := hideJ (World.grownBy_alloc w (.cells (madeCells Tryz.zeroCells167 (1 * 259)) 167) none)
  have HF0 := hideJ hF0
  have hw1 : IntKind.i64.wrap ((c : Int) + 1) = (c : Int) + 1 := by rw [IntKind.wrap_i64]; omega
  have hw2 : IntKind.u32.wrap ((c : Int) + 1) = (c : Int) + 1 := by rw [IntKind.wrap_u32]; omega
  generalize w.alloc (.cells (madeCells Tryz.zeroCells167 (1 * 259)) 167) = W1 at hmk HF0 HG0
  have c1 : W1.cell? ⟨w.heap.size, 257, none⟩ = some (.int .u32 0) := by
    have := HF0.out.range (j := 0) (by omega) 257 (.int .u32 0) (fcl_end 0 0 false z256_length)
    simpa using this
  have f1 : W1.frozen? ⟨w.heap.size, 257, none⟩ = false := HF0.out.choose_spec.1.frozen 257
  clear hc hF0
  go_enter Tryz.func47, Tryz.ntmps47
  go_wp2
  go_loopw [14] (fun iv wr => iv = .int .i64 0 ∧ wr = W1) (fun _ _ => 0)
  case atStart => exact ⟨rfl, rfl⟩
  case round =>
    obtain ⟨rfl, rfl⟩ := hrel
    go_wp2
    go_ret
    have hx := (HF0.out.set1 (k := 0) (off := 257) (by omega) (by omega) (.int .u32 ((c : Int) + 1)))
    rw [show 0 * 259 + 257 = 257 from rfl] at hx
    refine ⟨⟨w.heap.size, rfl, Nat.le_refl _, hx.congr (fun j hj => ?_)⟩, grown_only HG0.out (Only.setCell _ _ _) (Nat.le_refl _)⟩
    have := frJ_end (N := N) (L := L) (n := 0) (m := 1) (c := c) rfl (fun k hk => by omega) j hj
    rw [← this]
    rfl

set_option maxHeartbeats 4000000 in
set_option maxRecDepth 20000 in
theorem framesOf_pos (w : World) (c : Nat) (hc : c ≤ 4096) (p : Option Addr) (n cap : Nat) (h1 : 1 ≤ n) (N : Nat → Nat) (L : Nat → List UInt8) (hp : PgA w p n (fun k => (N k : Int)) L) (hn : n ≤ 60) :
    Calls Tryz.prog 47 #[.int .i64 (c : Int), .slice p n cap] w fun e w' => (∃ g, e = .returned (.slice (some ⟨g, 0, none⟩) n n) ∧ w.heap.size ≤ g ∧ FrM w' g n (fun k => fcl (fN n N k : Int) (fP n L k) (fE n c k) false)) ∧ w.grownBy w' none := by
  have HP := hideJ hp
  have HM := hideJ (And.intro h1 hn)
  have hmk := (made100 w n (by omega)).1
  have hF0 := (made100 w n (by omega)).2
  have HF0 := hideJ hF0
  have HG0 := hideJ (World.grownBy_alloc w (.cells (madeCells Tryz.zeroCells167 (n * 259)) 167) none)
  have hw1 : IntKind.i64.wrap ((c : Int) + 1) = (c : Int) + 1 := by rw [IntKind.wrap_i64]; omega
  have hw2 : IntKind.u32.wrap ((c : Int) + 1) = (c : Int) + 1 := by rw [IntKind.wrap_u32]; omega
  have hw3 : IntKind.i64.wrap ((n : Int) - 1) = ((n - 1 : Nat) : Int) := by rw [IntKind.wrap_i64]; omega
  have l1 : (1 : Int) ≤ (n : Int) := by omega
  have l2 : ¬ (n : Int) < 1 := by omega
  generalize w.alloc (.cells (madeCells Tryz.zeroCells167 (n * 259)) 167) = W1 at hmk HF0 HG0
  clear hp hn h1 hc hF0
  go_enter Tryz.func47, Tryz.ntmps47
  go_wp2
  all_goals first
    | (exfalso; omega)
    | skip
  go_loopw [14] (fun iv wr => ∃ j : Nat, j ≤ n ∧ iv = .int .i64 (j : Int) ∧ FrM wr w.heap.size n (frJ (fun k => (N k : Int)) L j) ∧ w.grownBy wr none) (fun iv _ => n - (intOf iv).toNat)
  case atStart => exact ⟨0, Nat.zero_le _, rfl, HF0.out, HG0.out⟩
  case round =>
    obtain ⟨j, hj, rfl, hf, hg⟩ := hrel
    have HFj := hideJ hf
    have HG := hideJ hg
    clear hf hg
    by_cases hlt : j < n
    · obtain ⟨g, cur, rfl, hb, hcl⟩ := (HP.out.grown HG.out) (by omega)
      have HRg := hideJ (hcl j hlt)
      obtain ⟨z, hz, hZ⟩ := new67 wr
      have HZ := hideJ hZ
      have HI := hideJ (size67 (n := (N j : Int)) (hcl j hlt).1)
      have HSz : Hid ((pcl (N j : Int) (L j)).toArray.size = z.size) := by show _ = _; rw [List.size_toArray, pcl_length _ (hcl j hlt).1, hz]
      have HA := hideJ (pcl_all (N j : Int) (L j))
      have HStp := hideJ (frJ_step (N := fun k => (N k : Int)) (hcl j hlt).1)
      have HLen : Hid (0 + (pcl (N j : Int) (L j)).length ≤ 259) := by show _ ≤ _; rw [pcl_length _ (hcl j hlt).1]; omega
      have l3 : (j : Int) < (n : Int) := by omega
      have l0 : (0 : Int) ≤ (j : Int) := by omega
      have hw4 : IntKind.i64.wrap ((j : Int) + 1) = (j : Int) + 1 := by have := HM.out; rw [IntKind.wrap_i64]; omega
      have HK := hideJ hlt
      have HLt := hideJ HFj.out.lt
      clear hb hcl hZ hz
      go_wp2_with (first
        | ((with_reducible refine at67L ?_); refine wp_load67 HRg.out.1 HRg.out.2 _ (by rfl) (by rfl) (by rfl) ?_)
        | ((with_reducible refine at67S ?_); refine wp_storeB (c := (pcl (N j : Int) (L j)).toArray) HI.out HSz.out HA.out HZ.out _ _ (by rfl) (by rfl) (by rfl) (by rfl) ?_; intro W5 hb5 ho5; have HB5 := hideJ hb5; have HG5 := hideJ (grown_only (grown_trans' HG.out (World.grownBy_alloc _ _ _)) ho5 HG.out.size); have HF5 := hideJ ((HFj.out.grown (World.grownBy_alloc _ _ _)).only ho5 (by have := HLt.out; omega)); clear hb5 ho5)
        | ((with_reducible refine at67L ?_); refine wp_loadB HI.out u67 HB5.out _ (by rfl) (by rfl) (by rfl) ?_)
        | ((with_reducible refine at67S ?_); refine frm_store (k := j) (off := 0) (cs := pcl (N j : Int) (L j)) HF5.out HK.out HLen.out HI.out HA.out _ _ (by rfl) (by rfl) (by rfl) (by rfl) ?_; intro W6 hf6 ho6; have HF6 := hideJ hf6; have HG6 := hideJ (grown_only HG5.out ho6 (Nat.le_refl _)); clear hf6 ho6))
      refine ⟨⟨j + 1, HK.out, rfl, ?_, HG6.out⟩, ?_⟩
      · have := HF6.out
        rw [HStp.out] at this
        exact this
      · simp only [intOf]; have := HK.out; omega
    · obtain rfl : j = n := by omega
      have hn1 : 1 ≤ j := HM.out.1
      have hcell : ∃ x, wr.cell? ⟨w.heap.size, (j - 1) * 259 + 257, none⟩ = some (.int .u32 x) := by
        have hr := HFj.out.range (j := j - 1) (by omega) 257
        unfold frJ at hr
        by_cases hx : j - 1 < j
        · rw [if_pos hx] at hr
          have hLj : (L (j - 1)).length = 256 := by
            obtain ⟨g, cur, _, _, hcl⟩ := HP.out (by omega)
            exact (hcl (j - 1) hx).1
          exact ⟨_, hr _ (fcl_end _ 0 false hLj)⟩
        · omega
      obtain ⟨x, c1⟩ := hcell
      have f1 : wr.frozen? ⟨w.heap.size, (j - 1) * 259 + 257, none⟩ = false := HFj.out.choose_spec.1.frozen _
      have l5 : ((j - 1 : Nat) : Int) < (j : Int) := by omega
      have l6 : (0 : Int) ≤ ((j - 1 : Nat) : Int) := by omega
      have HFe := hideJ (HFj.out.set1 (k := j - 1) (off := 257) (by omega) (by omega) (.int .u32 ((c : Int) + 1)))
      have HLL : Hid (∀ k, k < j → (L k).length = 256) := fun k hk => by
        obtain ⟨g, cur, _, _, hcl⟩ := HP.out (by omega)
        exact (hcl k hk).1
      obtain ⟨J1, hJ1⟩ : ∃ J1, J1 = j - 1 := ⟨_, rfl⟩
      rw [← hJ1] at c1 f1 l5 l6 HFe hw3
      have HJ1 := hideJ hJ1
      clear hJ1 hj hlt hn1
      go_wp2
      go_ret
      refine ⟨⟨w.heap.size, rfl, Nat.le_refl _, HFe.out.congr (fun k hk => ?_)⟩, grown_only HG.out (Only.setCell _ _ _) (Nat.le_refl _)⟩
      have := frJ_end (N := N) (L := L) (n := j) (m := j) (c := c) (by have := HM.out; omega) HLL.out k hk
      rw [← this, HJ1.out]
      rfl
theorem framesOf_w (w : World) (c : Nat) (hc : c ≤ 4096) (p : Option Addr) (n cap m : Nat) (hm : m = max n 1) (N : Nat → Nat) (L : Nat → List UInt8) (hp : PgA w p n (fun k => (N k : Int)) L) (hn : n ≤ 60) :
    Calls Tryz.prog 47 #[.int .i64 (c : Int), .slice p n cap] w fun e w' => (∃ g, e = .returned (.slice (some ⟨g, 0, none⟩) m m) ∧ w.heap.size ≤ g ∧ FrM w' g m (fun k => fcl (fN n N k : Int) (fP n L k) (fE m c k) false)) ∧ w.grownBy w' none := by
  rcases Nat.eq_zero_or_pos n with rfl | h1
  · obtain rfl : m = 1 := by omega
    exact framesOf_zero w c hc p cap N L
  · obtain rfl : m = n := by omega
    exact framesOf_pos w c hc p m cap h1 N L hp hn
end Go.Proofs.YteocmhbllckpjaaGreat
