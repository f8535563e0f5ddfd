/- The contract of a file's sector over whatever world. -/
/- The contracts of the changes' maker and of its closure over whatever world. -/
/- The contract of the changes' closure at a sector, over whatever world. -/
import Derived.Test.YtfcgjedanhmpiaaD
import Derived.Lib.ItoaWalk
namespace Go.Proofs.Ytfcgjedanhmpiaa
open Go.ChangeShapes Go.WideShapes Go.ChangeAt Go.RowKit
set_option linter.unusedVariables false

/-- A sector of a file's bytes: 0 behind their end. -/
def secOf (l : List UInt8) (k : Nat) : List UInt8 := splice (List.replicate 64 0) 0 ((l.drop (k * 64)).take 64)

theorem alloc_new (w : World) (o : Obj) : (w.alloc o).heap[w.heap.size]? = some o := by
  show (w.heap.push o)[w.heap.size]? = _
  simp

theorem two_alloc (w : World) (A B : Obj) : w.grownBy ((w.alloc A).alloc B) none ∧ ((w.alloc A).alloc B).heap.size = w.heap.size + 2 ∧ ((w.alloc A).alloc B).heap[w.heap.size]? = some A ∧ ((w.alloc A).alloc B).heap[w.heap.size + 1]? = some B := by
  refine ⟨⟨rfl, rfl, rfl, by simp; omega, fun k hk _ => ?_⟩, by simp, ?_, ?_⟩
  · rw [Below.heap_alloc _ _ _ (by simp; omega), Below.heap_alloc _ _ _ hk]
  · rw [Below.heap_alloc _ _ _ (by simp), alloc_new]
  · have := alloc_new (w.alloc A) B
    simpa using this

set_option maxRecDepth 100000 in
theorem sector_at (w : World) (b o : Nat) (c : Array Value) (t : TypeId) (base : Nat) (v : Value) (l : List UInt8) (k : Nat) (hb : Blk w b c t) (hc : c[o]? = some v) (hown : Own w base v l)
    (hk : k * 64 < l.length) (hl : l.length ≤ 1048576) :
    Calls Try.prog 78 #[.pointer (some ⟨b, o, none⟩), .int .i64 k] w fun e w' => e = .returned (.agg (bcs (secOf l k)).toArray) ∧ w.grownBy w' none := by
  have h0 : w.cell? ⟨b, o, none⟩ = some v := (hb.cell o).trans hc
  have hblt := hb.lt
  rcases hown.2 with ⟨rfl, hz⟩ | ⟨g, cap, cur, rfl, hbg, hg, hnc, hcm, hcs, htake⟩
  · omega
  · have h1 : (k : Int) * 64 < (l.length : Int) := by omega
    have h2 : (l.length : Int) ≤ (cap : Int) := by omega
    have h3 : (k : Int) * 64 ≤ (l.length : Int) := by omega
    have h4 : k * 64 < cap := by omega
    clear hb
    unfold maxLen at hcm
    go_enter Try.func78, Try.ntmps78
    go_wp2
    go_name_world W hW
    have hW' := two_alloc w (.cells (List.replicate 64 (Value.int .u8 0)).toArray 97) (.cells (List.replicate 64 (Value.int .u8 0)).toArray 97)
    rw [show ((w.alloc (.cells (List.replicate 64 (Value.int .u8 0)).toArray 97)).alloc (.cells (List.replicate 64 (Value.int .u8 0)).toArray 97)) = W from hW] at hW'
    obtain ⟨hgr, hsz, hA, hB⟩ := hW'
    clear hW
    have h0' : W.cell? ⟨b, o, none⟩ = some (.slice (some ⟨g, 0, none⟩) l.length cap) := hgr.cell h0 (by simp)
    have hg' : W.heap[g]? = some (.cells cur 5 (0, 0)) := (hgr.block g (Array.getElem?_eq_some_iff.1 hg).1 (by simp)).trans hg
    have hcl : ((bcs (l.drop (k * 64))).take 64).length = min 64 (l.length - k * 64) := by simp [length_bcs]
    have hcell : ∀ j u, (bcs l)[j]? = some u → W.cell? ((⟨g, 0, none⟩ : Addr).add j) = some u := fun j u hj => by
      have := hown.cells (g := g) rfl j u hj
      rw [Addr.add_lit] at this ⊢
      exact hgr.cell this (by simp)
    have hcp := run_copy_row (P := Try.prog) W.drew 43 43 3 5 (w.heap.size + 1) 0 64 64 ⟨g, k * 64, none⟩ (l.length - k * 64) (cap - k * 64) (List.replicate 64 (Value.int .u8 0)).toArray 97 ((bcs (l.drop (k * 64))).take 64) Try.underlying43 bytes_size hB (by rw [hcl]; exact Nat.min_comm _ _)
      (fun j u hj => by
        have h1 : (bcs l)[k * 64 + j]? = some u := by
          rw [List.getElem?_take] at hj
          split at hj
          · simpa [bcs] using hj
          · cases hj
        have := hcell _ _ h1
        rw [Addr.add_lit] at this ⊢
        simpa using this) (by rw [hcl]; simp; omega) (fun u hu => one_bcs _ u (List.mem_of_mem_take hu))
    obtain ⟨N, hN⟩ : ∃ N : Int, N = ((bcs (l.drop (k * 64))).take 64).length := ⟨_, rfl⟩
    obtain ⟨X, hX⟩ : ∃ X : Array Value, X = (bcs (secOf l k)).toArray := ⟨_, rfl⟩
    have hcp' : (Builtin.copy_ #[43, 43] 3 #[.slice (some ⟨w.heap.size + 1, 0, none⟩) 64 64, .slice (some ⟨g, k * 64, none⟩) (l.length - k * 64) (cap - k * 64)]).run Try.prog W.drew = .ok (goInt N) (W.drew.setRow (w.heap.size + 1) X) := by
      rw [hcp, hN, hX]
      congr 3
      simp [secOf, bcs, splice, List.map_take, List.map_drop]
    have hXs : X.size = 64 := by rw [hX]; simp [length_bcs, secOf]; rw [length_splice] <;> simp; omega
    have hX1 : X.all (·.oneCell') = true := by rw [hX]; exact Array.all_eq_true_iff_forall_mem.2 (fun v hv => one_bcs _ v (by simpa using hv))
    have hA2 : (W.drew.setRow (w.heap.size + 1) X).heap[w.heap.size]? = some (.cells (List.replicate 64 (Value.int .u8 0)).toArray 97 (0, 0)) := by rw [setRow_other _ _ _ _ (by omega)]; exact hA
    have hB2 : (W.drew.setRow (w.heap.size + 1) X).heap[w.heap.size + 1]? = some (.cells X 97 (0, 0)) := setRow_heap W.drew _ _ _ _ _ hB
    have i42 : (Try.prog.info? 97).map (·.size) = some X.size := by rw [hXs]; kernel_rfl
    have HA : Hid ((W.drew.setRow (w.heap.size + 1) X).heap[w.heap.size]? = some (.cells (List.replicate 64 (Value.int .u8 0)).toArray 97 (0, 0))) := hA2
    have HB : Hid ((W.drew.setRow (w.heap.size + 1) X).heap[w.heap.size + 1]? = some (.cells X 97 (0, 0))) := hB2
    have HX : Hid (X = (bcs (secOf l k)).toArray) := hX
    have HS : Hid (X.size = 64) := hXs
    have HI : Hid ((Try.prog.info? 97).map (·.size) = some X.size) := i42
    have HO : Hid (X.all (·.oneCell') = true) := hX1
    clear hcell hcl hcp hN hX hXs hX1 hA hB hA2 hB2 i42 hg hg' hown hc h0 htake hcs
    go_region
    go_wp2_with (first
      | refine wpList_load_row rfl 97 (.tmp 5) rfl (w.heap.size + 1) (by simp [Act.eval]) 97 X (0, 0) _ HB.out Try.underlying97 rfl HI.out ?_
      | refine wpList_store_row rfl 97 (.tmp 4) (.tmp 16) rfl w.heap.size X (by simp [Act.eval, Act.put]) (by simp [Act.eval, Act.put]) 97 _ HA.out HI.out (by rw [HS.out]; rfl) HO.out ?_)
    refine bodyPost_ret (v := .agg X) (results_cell_row Try.results78 _ _ w.heap.size 97 X (0, 0) _ rfl (setRow_heap _ _ _ _ _ _ HA.out) Try.underlying97 rfl HI.out) rfl ⟨by rw [HX.out], ?_⟩
    refine ⟨hgr.os, hgr.tape, hgr.output, by simp [hsz], fun j hj _ => ?_⟩
    rw [setRow_other _ _ _ _ (by omega), setRow_other _ _ _ _ (by omega)]
    exact hgr.block j hj (by simp)

end Go.Proofs.Ytfcgjedanhmpiaa

namespace Go.Proofs.Ytfcgjedanhmpiaa
open Go.ChangeShapes Go.WideShapes Go.ChangeAt Go.RowKit
set_option linter.unusedVariables false

/-- The cells of a change. -/
def chg (nm : ByteArray) (sector size : Int) (data : List UInt8) : List Value := [.string nm, .int .i64 sector, .int .i64 size] ++ bcs data

theorem length_chg (nm : ByteArray) (sector size : Int) (data : List UInt8) : (chg nm sector size data).length = 3 + data.length := by simp [chg, length_bcs]; omega
theorem one_chg (nm : ByteArray) (sector size : Int) (data : List UInt8) : ∀ v ∈ chg nm sector size data, v.oneCell' = true := by
  intro v hv
  simp only [chg, List.cons_append, List.nil_append, List.mem_cons] at hv
  rcases hv with rfl | rfl | rfl | hv
  · rfl
  · rfl
  · rfl
  · exact one_bcs data v hv

theorem store_all {P : Program} (w : World) (g : Nat) (t : TypeId) (vs : List Value) (cur : Array Value) (hg : w.heap[g]? = some (.cells cur t (0, 0))) (hl : vs.length = cur.size) (h1 : ∀ v ∈ vs, v.oneCell' = true) :
    (storeCells ⟨g, 0, none⟩ vs).run P w = .ok () (w.setRow g vs.toArray) := by
  have := run_storeCells_at P g 0 t vs 0 cur w hg (by omega) h1
  rw [this]
  simp only [Nat.add_zero, Nat.zero_add, List.take_zero, List.nil_append, hl]
  rw [List.drop_of_length_le (by simp), List.append_nil]

theorem zeros75 (nm : ByteArray) (n : Int) (s : Int) : (((Try.zeroCells100.toList.set 0 (Value.string nm)).set 1 (Value.int IntKind.i64 s)).set 2 (Value.int IntKind.i64 n)) = chg nm s n (List.replicate 64 0) := rfl
theorem info75s : (Try.prog.info? 100).map (·.size) = some 67 := by kernel_rfl
theorem zeros75_size : Try.zeroCells100.size = 67 := by kernel_rfl

theorem changer_any (w : World) (b o : Nat) (nm : ByteArray) :
    Calls Try.prog 74 #[.pointer (some ⟨b, o, none⟩), .string nm] w fun e w' => e = .returned (.func (.func 77) #[] #[.pointer (some ⟨w.heap.size + 1, 0, none⟩), .pointer (some ⟨w.heap.size, 0, none⟩)]) ∧ w' = (w.alloc (.cells #[.pointer (some ⟨b, o, none⟩)] 89)).alloc (.cells #[.string nm] 9) := by
  go_enter Try.func74, Try.ntmps74
  go_wp2
  go_ret
  exact ⟨rfl, rfl⟩

set_option maxRecDepth 100000 in
theorem change_size (w : World) (nb sb b o : Nat) (nm : ByteArray) (a : Option Addr) (n c : Nat) (hn : w.cell? ⟨nb, 0, none⟩ = some (.string nm)) (hs : w.cell? ⟨sb, 0, none⟩ = some (.pointer (some ⟨b, o, none⟩)))
    (h : w.cell? ⟨b, o, none⟩ = some (.slice a n c)) :
    Calls Try.prog 77 #[.int .i64 (-1), .pointer (some ⟨nb, 0, none⟩), .pointer (some ⟨sb, 0, none⟩)] w fun e w' => e = .returned (.agg (chg nm (-1) n (List.replicate 64 0)).toArray) ∧ w.grownBy w' none := by
  go_enter Try.func77, Try.ntmps77
  go_wp2
  have hz := alloc_new w (.cells Try.zeroCells100 100)
  have hgr := World.grownBy_alloc w (.cells Try.zeroCells100 100) none
  have hs1 : (w.alloc (.cells Try.zeroCells100 100)).heap.size = w.heap.size + 1 := by simp
  go_name_world W hW
  rw [hW] at hz hgr hs1
  clear hW
  have hn' := hgr.cell hn (by simp)
  have hs' := hgr.cell hs (by simp)
  have h' := hgr.cell h (by simp)
  obtain ⟨X, hX⟩ : ∃ X : Array Value, X = (chg nm (-1) n (List.replicate 64 0)).toArray := ⟨_, rfl⟩
  have hst : (storeCells ⟨w.heap.size, 0, none⟩ (((Try.zeroCells100.toList.set 0 (Value.string nm)).set 1 (Value.int IntKind.i64 (-1))).set 2 (Value.int IntKind.i64 n))).run Try.prog W.drew = .ok () (W.drew.setRow w.heap.size X) := by
    rw [zeros75, hX]
    exact store_all W.drew _ 100 _ _ hz (by rw [length_chg, zeros75_size]; rfl) (one_chg _ _ _ _)
  have hXs : (Try.prog.info? 100).map (·.size) = some X.size := by
    have e : X.size = 67 := by rw [hX, List.size_toArray, length_chg]; rfl
    rw [e]; exact info75s
  have HX : Hid (X = (chg nm (-1) n (List.replicate 64 0)).toArray) := hX
  have HI : Hid ((Try.prog.info? 100).map (·.size) = some X.size) := hXs
  have HZ : Hid (W.heap[w.heap.size]? = some (.cells Try.zeroCells100 100 (0, 0))) := hz
  clear hn hs h hX hXs hz
  go_region_with (go_at_call 46; refine (size_of W.drew b o a n c h').mono ?_; rintro e w2 ⟨rfl, rfl⟩)
  all_goals
    go_wp2
    refine bodyPost_ret (v := .agg X) (results_cell_row Try.results77 _ _ w.heap.size 100 X (0, 0) _ rfl (setRow_heap W.drew _ _ _ _ _ HZ.out) Try.underlying100 rfl HI.out) rfl ⟨by rw [HX.out], ?_⟩
    refine ⟨hgr.os, hgr.tape, hgr.output, by simp [hs1], fun j hj _ => ?_⟩
    rw [setRow_other _ _ _ _ (by omega)]
    exact hgr.block j hj (by simp)

end Go.Proofs.Ytfcgjedanhmpiaa

namespace Go.Proofs.Ytfcgjedanhmpiaa
open Go.ChangeShapes Go.WideShapes Go.ChangeAt Go.RowKit
set_option linter.unusedVariables false

theorem length_secOf (l : List UInt8) (k : Nat) : (secOf l k).length = 64 := by unfold secOf; rw [length_splice] <;> simp; omega
theorem grown_drew {w W : World} {r : Option Nat} (h : w.grownBy W r) : w.grownBy W.drew r := ⟨h.os, h.tape, h.output, h.size, h.block⟩
theorem own_none {w W : World} {base : Nat} {e : TypeId} {size : Nat} {v : Value} {n : Nat} {xs : List Value} (h : w.ownsRow base e size v n xs) (hg : w.grownBy W none) : W.ownsRow base e size v n xs :=
  h.kept hg (by cases hv : v.ownBlock <;> simp)

theorem fold_set_list (off : Nat) : ∀ (vs : List Value) (i : Nat) (cur : Array Value), off + i + vs.length ≤ cur.size →
    (vs.zipIdx i).foldl (fun cs x => cs.setIfInBounds (off + x.2) x.1) cur = (cur.toList.take (off + i) ++ vs ++ cur.toList.drop (off + i + vs.length)).toArray
  | [], i, cur, h => by simp
  | v :: vs, i, cur, h => by
    simp only [List.length_cons] at h
    have hlt : off + i < cur.toList.length := by simp; omega
    have e : (cur.setIfInBounds (off + i) v).toList = cur.toList.take (off + i) ++ v :: cur.toList.drop (off + i + 1) := by
      rw [Array.toList_setIfInBounds, List.set_eq_take_append_cons_drop, if_pos hlt]
    have hl : (cur.toList.take (off + i)).length = off + i := by rw [List.length_take]; omega
    rw [List.zipIdx_cons, List.foldl_cons, fold_set_list off vs (i + 1) _ (by simp; omega), e]
    congr 1
    have t1 : (cur.toList.take (off + i) ++ v :: cur.toList.drop (off + i + 1)).take (off + (i + 1)) = cur.toList.take (off + i) ++ [v] := by
      rw [List.take_append, hl, List.take_of_length_le (by rw [hl]; omega), show off + (i + 1) - (off + i) = 1 by omega]
      simp
    have t2 : (cur.toList.take (off + i) ++ v :: cur.toList.drop (off + i + 1)).drop (off + (i + 1) + vs.length) = cur.toList.drop (off + i + (vs.length + 1)) := by
      rw [List.drop_append, hl, List.drop_of_length_le (by rw [hl]; omega), show off + (i + 1) + vs.length - (off + i) = vs.length + 1 by omega]
      simp [List.drop_drop]
      congr 1; omega
    rw [t1, t2]
    simp [List.length_cons]

theorem fold_set (S cur : Array Value) (off n : Nat) (hn : n = S.size) (h : off + S.size ≤ cur.size) :
    Array.foldl (fun cs x => cs.setIfInBounds (off + x.snd) x.fst) cur S.zipIdx 0 n = (splice cur.toList off S.toList).toArray := by
  subst hn
  have := fold_set_list off S.toList 0 cur (by simpa using h)
  rw [Array.foldl_eq_foldl_extract]
  have e : S.zipIdx.extract 0 S.size = S.zipIdx := by rw [Array.extract_eq_self_of_le (by simp)]
  rw [e, ← Array.foldl_toList, Array.toList_zipIdx, this]
  simp [splice]

theorem build_chg (nm : ByteArray) (k : Int) (l : List UInt8) (q : Nat) :
    Array.foldl (fun cs x => cs.setIfInBounds (3 + x.snd) x.fst) ((Try.zeroCells100.setIfInBounds 0 (.string nm)).setIfInBounds 1 (.int .i64 k)) (bcs (secOf l q)).toArray.zipIdx 0 64 = (chg nm k 0 (secOf l q)).toArray := by
  have h64 : (bcs (secOf l q)).toArray.size = 64 := by simp [length_bcs, length_secOf]
  rw [fold_set _ _ _ _ h64.symm (by rw [h64]; simp)]
  congr 1
  unfold splice chg
  have h67 : (((Try.zeroCells100.setIfInBounds 0 (.string nm)).setIfInBounds 1 (.int .i64 k)).toList.drop (3 + (bcs (secOf l q)).length)) = [] := List.drop_of_length_le (by rw [length_bcs, length_secOf]; simp)
  rw [h67, List.append_nil]
  rfl

set_option maxRecDepth 100000 in
theorem change_sector (w : World) (nb sb b o : Nat) (nm : ByteArray) (c : Array Value) (t : TypeId) (base : Nat) (v : Value) (l : List UInt8) (k : Nat) (hn : w.cell? ⟨nb, 0, none⟩ = some (.string nm)) (hs : w.cell? ⟨sb, 0, none⟩ = some (.pointer (some ⟨b, o, none⟩)))
    (hb : Blk w b c t) (hc : c[o]? = some v) (hown : Own w base v l) (hk : k * 64 < l.length) (hl : l.length ≤ 1048576) :
    Calls Try.prog 77 #[.int .i64 k, .pointer (some ⟨nb, 0, none⟩), .pointer (some ⟨sb, 0, none⟩)] w fun e w' => e = .returned (.agg (chg nm k 0 (secOf l k)).toArray) ∧ w.grownBy w' none := by
  have hk0 : ((k : Int) == -1) = false := by simp
  go_enter Try.func77, Try.ntmps77
  go_wp2
  have hz := alloc_new w (.cells Try.zeroCells100 100)
  have hgr := World.grownBy_alloc w (.cells Try.zeroCells100 100) none
  have hs1 : (w.alloc (.cells Try.zeroCells100 100)).heap.size = w.heap.size + 1 := by simp
  go_name_world W hW
  rw [hW] at hz hgr hs1
  clear hW
  have hn' := hgr.cell hn (by simp)
  have hs' := hgr.cell hs (by simp)
  have hb' : Blk W.drew b c t := (hgr.block b hb.lt (by simp)).trans hb
  have hown' : Own W.drew base v l := own_none hown (grown_drew hgr)
  have HS := sector_at W.drew b o c t base v l k hb' hc hown' hk hl
  obtain ⟨S, hS⟩ : ∃ S : Array Value, S = (bcs (secOf l k)).toArray := ⟨_, rfl⟩
  rw [← hS] at HS
  have hSs : S.size = 64 := by rw [hS]; simp [length_bcs, length_secOf]
  have HSe : Hid (S = (bcs (secOf l k)).toArray) := hS
  obtain ⟨X, hX⟩ : ∃ X : Array Value, X = (chg nm k 0 (secOf l k)).toArray := ⟨_, rfl⟩
  have hbd : Array.foldl (fun cs x => cs.setIfInBounds (3 + x.snd) x.fst) ((Try.zeroCells100.setIfInBounds 0 (.string nm)).setIfInBounds 1 (.int .i64 k)) S.zipIdx 0 64 = X := by
    rw [hS, hX]; exact build_chg nm k l k
  have hXs : X.size = 67 := by rw [hX, List.size_toArray, length_chg, length_secOf]
  have HO : Hid (∀ v ∈ X.toList, v.oneCell' = true) := by rw [hX]; exact one_chg _ _ _ _
  have HX : Hid (X = (chg nm k 0 (secOf l k)).toArray) := hX
  have HZ : Hid (W.heap[w.heap.size]? = some (.cells Try.zeroCells100 100 (0, 0))) := hz
  clear hn hs hb hc hown hb' hown' hS hX hz
  go_region_with (go_at_call 78; refine HS.mono ?_; rintro e w2 ⟨rfl, hg2⟩; have hn2 := hg2.cell (w := W.drew) hn' (by simp); have hz2 : Hid (w2.heap[w.heap.size]? = some (.cells Try.zeroCells100 100 (0, 0))) := (hg2.block w.heap.size (by show _ < W.heap.size; omega) (by simp)).trans HZ.out; have hst2 := store_all (P := Try.prog) w2 w.heap.size 100 X.toList _ hz2.out (by rw [zeros75_size, Array.length_toList, hXs]) HO.out)
  all_goals
    go_wp2
    refine bodyPost_ret (v := .agg X) (results_cell_row Try.results77 _ _ w.heap.size 100 X (0, 0) _ rfl (setRow_heap w2 _ _ _ _ _ hz2.out) Try.underlying100 rfl (by rw [hXs]; exact info75s)) rfl ⟨by rw [HX.out], ?_⟩
    refine ⟨hg2.os.trans hgr.os, hg2.tape.trans hgr.tape, hg2.output.trans hgr.output, by have := hg2.size; have := hgr.size; rw [size_setRow]; exact Nat.le_trans hgr.size hg2.size, fun j hj _ => ?_⟩
    rw [setRow_other _ _ _ _ (by omega), hg2.block j (Nat.lt_of_lt_of_le hj hgr.size) (by simp)]
    exact hgr.block j hj (by simp)

end Go.Proofs.Ytfcgjedanhmpiaa
