/- The contract of the changes' closure at a sector, over whatever world. -/
import Derived.Test.YtefcconbpomedaaF
namespace Go.Proofs.Ytefcconbpomedaa
open Go.ChangeShapes Go.WideShapes Go.ChangeAt Go.RowKit
set_option linter.unusedVariables false

theorem length_secOf (l : List UInt8) (k : Nat) : (secOf l k).length = 64 := by unfold secOf; rw [length_splice] <;> simp; omega
theorem grown_drew {w W : World} {r : Option Nat} (h : w.grownBy W r) : w.grownBy W.drew r := ⟨h.os, h.tape, h.output, h.size, h.block⟩
theorem own_none {w W : World} {base : Nat} {e : TypeId} {size : Nat} {v : Value} {n : Nat} {xs : List Value} (h : w.ownsRow base e size v n xs) (hg : w.grownBy W none) : W.ownsRow base e size v n xs :=
  h.kept hg (by cases hv : v.ownBlock <;> simp)

theorem fold_set_list (off : Nat) : ∀ (vs : List Value) (i : Nat) (cur : Array Value), off + i + vs.length ≤ cur.size →
    (vs.zipIdx i).foldl (fun cs x => cs.setIfInBounds (off + x.2) x.1) cur = (cur.toList.take (off + i) ++ vs ++ cur.toList.drop (off + i + vs.length)).toArray
  | [], i, cur, h => by simp
  | v :: vs, i, cur, h => by
    simp only [List.length_cons] at h
    have hlt : off + i < cur.toList.length := by simp; omega
    have e : (cur.setIfInBounds (off + i) v).toList = cur.toList.take (off + i) ++ v :: cur.toList.drop (off + i + 1) := by
      rw [Array.toList_setIfInBounds, List.set_eq_take_append_cons_drop, if_pos hlt]
    have hl : (cur.toList.take (off + i)).length = off + i := by rw [List.length_take]; omega
    rw [List.zipIdx_cons, List.foldl_cons, fold_set_list off vs (i + 1) _ (by simp; omega), e]
    congr 1
    have t1 : (cur.toList.take (off + i) ++ v :: cur.toList.drop (off + i + 1)).take (off + (i + 1)) = cur.toList.take (off + i) ++ [v] := by
      rw [List.take_append, hl, List.take_of_length_le (by rw [hl]; omega), show off + (i + 1) - (off + i) = 1 by omega]
      simp
    have t2 : (cur.toList.take (off + i) ++ v :: cur.toList.drop (off + i + 1)).drop (off + (i + 1) + vs.length) = cur.toList.drop (off + i + (vs.length + 1)) := by
      rw [List.drop_append, hl, List.drop_of_length_le (by rw [hl]; omega), show off + (i + 1) + vs.length - (off + i) = vs.length + 1 by omega]
      simp [List.drop_drop]
      congr 1; omega
    rw [t1, t2]
    simp [List.length_cons]

theorem fold_set (S cur : Array Value) (off n : Nat) (hn : n = S.size) (h : off + S.size ≤ cur.size) :
    Array.foldl (fun cs x => cs.setIfInBounds (off + x.snd) x.fst) cur S.zipIdx 0 n = (splice cur.toList off S.toList).toArray := by
  subst hn
  have := fold_set_list off S.toList 0 cur (by simpa using h)
  rw [Array.foldl_eq_foldl_extract]
  have e : S.zipIdx.extract 0 S.size = S.zipIdx := by rw [Array.extract_eq_self_of_le (by simp)]
  rw [e, ← Array.foldl_toList, Array.toList_zipIdx, this]
  simp [splice]

theorem build_chg (nm : ByteArray) (k : Int) (l : List UInt8) (q : Nat) :
    Array.foldl (fun cs x => cs.setIfInBounds (3 + x.snd) x.fst) ((Try.zeroCells75.setIfInBounds 0 (.string nm)).setIfInBounds 1 (.int .i64 k)) (bcs (secOf l q)).toArray.zipIdx 0 64 = (chg nm k 0 (secOf l q)).toArray := by
  have h64 : (bcs (secOf l q)).toArray.size = 64 := by simp [length_bcs, length_secOf]
  rw [fold_set _ _ _ _ h64.symm (by rw [h64]; simp)]
  congr 1
  unfold splice chg
  have h67 : (((Try.zeroCells75.setIfInBounds 0 (.string nm)).setIfInBounds 1 (.int .i64 k)).toList.drop (3 + (bcs (secOf l q)).length)) = [] := List.drop_of_length_le (by rw [length_bcs, length_secOf]; simp)
  rw [h67, List.append_nil]
  rfl

set_option maxRecDepth 100000 in
theorem change_sector (w : World) (nb sb b o : Nat) (nm : ByteArray) (c : Array Value) (t : TypeId) (base : Nat) (v : Value) (l : List UInt8) (k : Nat) (hn : w.cell? ⟨nb, 0, none⟩ = some (.string nm)) (hs : w.cell? ⟨sb, 0, none⟩ = some (.pointer (some ⟨b, o, none⟩)))
    (hb : Blk w b c t) (hc : c[o]? = some v) (hown : Own w base v l) (hk : k * 64 < l.length) (hl : l.length ≤ 1048576) :
    Calls Try.prog 59 #[.int .i64 k, .pointer (some ⟨nb, 0, none⟩), .pointer (some ⟨sb, 0, none⟩)] w fun e w' => e = .returned (.agg (chg nm k 0 (secOf l k)).toArray) ∧ w.grownBy w' none := by
  have hk0 : ((k : Int) == -1) = false := by simp
  go_enter Try.func59, Try.ntmps59
  go_wp2
  have hz := alloc_new w (.cells Try.zeroCells75 75)
  have hgr := World.grownBy_alloc w (.cells Try.zeroCells75 75) none
  have hs1 : (w.alloc (.cells Try.zeroCells75 75)).heap.size = w.heap.size + 1 := by simp
  go_name_world W hW
  rw [hW] at hz hgr hs1
  clear hW
  have hn' := hgr.cell hn (by simp)
  have hs' := hgr.cell hs (by simp)
  have hb' : Blk W.drew b c t := (hgr.block b hb.lt (by simp)).trans hb
  have hown' : Own W.drew base v l := own_none hown (grown_drew hgr)
  have HS := sector_at W.drew b o c t base v l k hb' hc hown' hk hl
  obtain ⟨S, hS⟩ : ∃ S : Array Value, S = (bcs (secOf l k)).toArray := ⟨_, rfl⟩
  rw [← hS] at HS
  have hSs : S.size = 64 := by rw [hS]; simp [length_bcs, length_secOf]
  have HSe : Hid (S = (bcs (secOf l k)).toArray) := hS
  obtain ⟨X, hX⟩ : ∃ X : Array Value, X = (chg nm k 0 (secOf l k)).toArray := ⟨_, rfl⟩
  have hbd : Array.foldl (fun cs x => cs.setIfInBounds (3 + x.snd) x.fst) ((Try.zeroCells75.setIfInBounds 0 (.string nm)).setIfInBounds 1 (.int .i64 k)) S.zipIdx 0 64 = X := by
    rw [hS, hX]; exact build_chg nm k l k
  have hXs : X.size = 67 := by rw [hX, List.size_toArray, length_chg, length_secOf]
  have HO : Hid (∀ v ∈ X.toList, v.oneCell' = true) := by rw [hX]; exact one_chg _ _ _ _
  have HX : Hid (X = (chg nm k 0 (secOf l k)).toArray) := hX
  have HZ : Hid (W.heap[w.heap.size]? = some (.cells Try.zeroCells75 75 (0, 0))) := hz
  clear hn hs hb hc hown hb' hown' hS hX hz
  go_region_with (go_at_call 60; refine HS.mono ?_; rintro e w2 ⟨rfl, hg2⟩; have hn2 := hg2.cell (w := W.drew) hn' (by simp); have hz2 : Hid (w2.heap[w.heap.size]? = some (.cells Try.zeroCells75 75 (0, 0))) := (hg2.block w.heap.size (by show _ < W.heap.size; omega) (by simp)).trans HZ.out; have hst2 := store_all (P := Try.prog) w2 w.heap.size 75 X.toList _ hz2.out (by rw [zeros75_size, Array.length_toList, hXs]) HO.out)
  all_goals
    go_wp2
    refine bodyPost_ret (v := .agg X) (results_cell_row Try.results59 _ _ w.heap.size 75 X (0, 0) _ rfl (setRow_heap w2 _ _ _ _ _ hz2.out) Try.underlying75 rfl (by rw [hXs]; exact info75s)) rfl ⟨by rw [HX.out], ?_⟩
    refine ⟨hg2.os.trans hgr.os, hg2.tape.trans hgr.tape, hg2.output.trans hgr.output, by have := hg2.size; have := hgr.size; rw [size_setRow]; exact Nat.le_trans hgr.size hg2.size, fun j hj _ => ?_⟩
    rw [setRow_other _ _ _ _ (by omega), hg2.block j (Nat.lt_of_lt_of_le hj hgr.size) (by simp)]
    exact hgr.block j hj (by simp)

end Go.Proofs.Ytefcconbpomedaa
