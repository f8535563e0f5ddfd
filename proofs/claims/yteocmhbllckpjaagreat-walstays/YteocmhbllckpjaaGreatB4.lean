/- A frame is read. -/
import Derived.Test.YteocmhbllckpjaaGreatB3
import Derived.Test.YteocmhbllckpjaaGreatB2
import Derived.Test.YteocmhbllckpjaaGreatAJG
namespace Go.Proofs.YteocmhbllckpjaaGreat
open Go.ChangeShapes Go.WideShapes Go.ChangeAt Go.RowKit
open Go.ChangeMaps (setBlock)
set_option linter.unusedVariables false

def z256 : List UInt8 := List.replicate 256 0
theorem z256_length : z256.length = 256 := List.length_replicate ..
theorem bstr_size (l : List UInt8) : (bstr l).size = l.length := by simp [bstr, ByteArray.size]
theorem bstr_data (l : List UInt8) : (bstr l).data.toList = l := by simp [bstr]
theorem only_blk {w w' : World} {b g : Nat} {c : Array Value} {t : TypeId} (h : Blk w b c t) (ho : Only [g] w w') (hn : b ≠ g) : Blk w' b c t := ho.blk h (by simp; exact hn)
theorem range_of_blk2 {w : World} {b : Nat} {c : List Value} {t : TypeId} (hb : Blk w b c.toArray t) : w.rangeAt b 0 c := by
  have := range_of_blk hb
  simpa using this
theorem built167_fill (parts : List (Nat × Value)) : Tryz.prog.built 167 parts = Instr.fill (#[(0, 257), (257, 1), (258, 1)][·]?) Tryz.zeroCells167 parts := by
  have hi : (Tryz.prog.info? 167).map (·.zero) = some (some (.agg Tryz.zeroCells167)) := by kernel_rfl
  obtain ⟨it, h1, h2⟩ := Option.map_eq_some_iff.1 hi
  have hf : ∃ fs, Tryz.prog.underlying 167 = some (.struct fs) ∧ fs.toList.mapM (fun f => (Tryz.prog.info? f.type).map fun i => (f.offset, i.size)) = some [(0, 257), (257, 1), (258, 1)] := ⟨_, Tryz.underlying167, by kernel_rfl⟩
  obtain ⟨fs, h3, h4⟩ := hf
  unfold Program.built
  rw [h1, h3]
  simp only [h2, h4]
  rfl
theorem fill_step {place : Nat → Option (Nat × Nat)} {cells : Array Value} {i off size : Nat} {v : Value} {rest : List (Nat × Value)} (hp : place i = some (off, size)) (hv : v.cells.size = size) (hl : off + size ≤ cells.size) : Instr.fill place cells ((i, v) :: rest) = Instr.fill place (splice cells.toList off v.cells.toList).toArray rest := by
  rw [Instr.fill, hp]
  simp only
  rw [if_neg (by simp [hv]; omega)]
  have := fold_set v.cells cells off v.cells.zipIdx.size (by simp) (by omega)
  rw [this]
theorem zero167 : Tryz.zeroCells167.toList = fcl 0 z256 0 false := by kernel_rfl
theorem splice_end (n : Int) {p : List UInt8} (e f : Nat) (pl : Bool) (h : p.length = 256) : splice (fcl n p e pl) 257 [.int .u32 (f : Int)] = fcl n p f pl := by
  unfold splice fcl
  have hb : (bcs p).length = 256 := by rw [length_bcs, h]
  have d1 : (bcs p).drop 257 = [] := List.drop_eq_nil_of_le (by omega)
  simp [hb, List.drop_append, d1]
theorem splice_plain (n : Int) {p : List UInt8} (e : Nat) (pl ql : Bool) (h : p.length = 256) : splice (fcl n p e pl) 258 [.bool ql] = fcl n p e ql := by
  unfold splice fcl
  have hb : (bcs p).length = 256 := by rw [length_bcs, h]
  have d1 : (bcs p).drop 258 = [] := List.drop_eq_nil_of_le (by omega)
  have d2 : (bcs p).take 257 = bcs p := List.take_of_length_le (by omega)
  simp [hb, List.drop_append, List.take_append, d1, d2]
theorem built167z (e : Nat) (pl : Bool) : Tryz.prog.built 167 [(1, .int .u32 (e : Int)), (2, .bool pl)] = some (fcl 0 z256 e pl).toArray := by
  have hz : Tryz.zeroCells167.size = 259 := by kernel_rfl
  rw [built167_fill, fill_step (off := 257) (size := 1) rfl rfl (by omega)]
  rw [zero167]
  have e1 : (Value.int .u32 (e : Int)).cells.toList = [.int .u32 (e : Int)] := rfl
  rw [e1, splice_end 0 0 e false z256_length, fill_step (off := 258) (size := 1) rfl rfl (by rw [List.size_toArray, fcl_length _ _ _ z256_length]; omega)]
  unfold Instr.fill
  have e2 : (Value.bool pl).cells.toList = [.bool pl] := rfl
  rw [e2, splice_plain 0 e false pl z256_length]
theorem step_b167 {ops : Array Oper} {o : Oper} {a : Act} {K : Act → World → Prop} {Q : Exit → Act → World → Prop} {E : Prop} {W : World} {e : Nat} {pl : Bool} (x y : Operand) (hgd : o.guard = none) (ho : o.op = .build 167 #[(1, x), (2, y)]) (hx : a.eval x = .int .u32 (e : Int)) (hy : a.eval y = .bool pl)
    (hk : K (a.put o.dst (.agg (fcl 0 z256 e pl).toArray)) W) :
    if Region.wanted o (yielded ops a.tmps) = true then Oper.wp Tryz.prog o a W K Q else E := by
  have hw : Region.wanted o (yielded ops a.tmps) = true := by simp [Region.wanted, hgd]
  rw [if_pos hw]
  have e1 : ((#[(1, x), (2, y)] : Array (Nat × Operand)).map fun (i, x) => (i, a.eval x)).toList = [(1, .int .u32 (e : Int)), (2, .bool pl)] := by simp [hx, hy]
  have hbz := built167z e pl
  generalize (fcl 0 z256 e pl).toArray = C at hbz hk
  exact wp_build 167 #[(1, x), (2, y)] ho (by rw [e1, hbz]; rfl) (by rw [e1, hbz]; exact hk)
theorem zs167 : Tryz.zeroCells167.size = 259 := by kernel_rfl
set_option maxRecDepth 100000 in
theorem new167 (V : World) : ∃ z : Array Value, z.size = 259 ∧ Blk (V.alloc (.cells Tryz.zeroCells167 167)) V.heap.size z 167 := ⟨Tryz.zeroCells167, zs167, alloc_new _ _⟩
theorem step_copyF {ops : Array Oper} {o : Oper} {a : Act} {K : Act → World → Prop} {Q : Exit → Act → World → Prop} {E : Prop} {W : World} {g dc : Nat} {n : Int} {e : Nat} {pl : Bool} {p : List UInt8} (hp : p.length = 256) (hg : Blk W g (fcl n z256 e pl).toArray 167) (x y : Operand)
    (hgd : o.guard = none) (ho : o.op = .call { callee := .builtin .copy, args := #[x, y], argTypes := #[62, 9] }) (hx : a.eval x = .slice (some ⟨g, 1, none⟩) 256 dc) (hy : a.eval y = .string (bstr p))
    (hk : ∀ W', Blk W' g (fcl n p e pl).toArray 167 → Only [g] W W' → K (a.put o.dst (goInt 256)) W') :
    if Region.wanted o (yielded ops a.tmps) = true then Oper.wp Tryz.prog o a W K Q else E := by
  have hw : Region.wanted o (yielded ops a.tmps) = true := by simp [Region.wanted, hgd]
  rw [if_pos hw]
  have hs : (bstr p).size = 256 := by rw [bstr_size, hp]
  have hr := Lib.run_copy_row_string (P := Tryz.prog) W 62 9 o.type 5 g 1 256 dc (bstr p) (fcl n z256 e pl).toArray 167 Tryz.underlying62 (by kernel_rfl) hg (by omega) (by rw [hs, List.size_toArray, fcl_length n _ _ z256_length]; omega)
  unfold Oper.wp execOp
  simp only [ho, resolve, invoke, builtin, Sem.run_bind, Sem.run_pure, Result.andThen_ok, List.map_toArray, List.map_cons, List.map_nil, hx, hy, hr]
  rw [hs]
  refine hk _ ?_ ⟨rfl, rfl, rfl, by simp [World.setRow], fun k _ hk => setRow_other W g k _ (fun e => hk (by simp [e]))⟩
  have := setRow_heap W g (fcl n z256 e pl).toArray (((fcl n z256 e pl).toArray.toList.take 1 ++ Lib.byteCells (bstr p).data.toList ++ (fcl n z256 e pl).toArray.toList.drop (1 + 256)).toArray) 167 (0, 0) hg
  have e : ((fcl n z256 e pl).toArray.toList.take 1 ++ Lib.byteCells (bstr p).data.toList ++ (fcl n z256 e pl).toArray.toList.drop (1 + 256)) = fcl n p e pl := by
    rw [bstr_data, List.toList_toArray]
    have hb : (bcs z256).length = 256 := by rw [length_bcs, z256_length]
    have d1 : (bcs z256).drop 256 = [] := List.drop_eq_nil_of_le (by omega)
    have e3 : Lib.byteCells p = bcs p := rfl
    rw [e3]
    unfold fcl
    simp [hb]
  rw [e] at this ⊢
  exact this
theorem ext_bstr (l : List UInt8) (a b : Nat) : (bstr l).extract a b = bstr ((l.take b).drop a) := by
  apply ByteArray.ext
  rw [ByteArray.data_extract]
  show l.toArray.extract a b = ((l.take b).drop a).toArray
  rw [List.extract_toArray, List.extract_eq_take_drop, List.drop_take]
theorem wordAt_be4 {n : Nat} (hn : n < 4294967296) (r : List UInt8) : wordAt (be4 n ++ r) 0 = n := by
  have e1 : (UInt8.ofNat (n / 16777216)).toNat = n / 16777216 % 256 := UInt8.toNat_ofNat'
  have e2 : (UInt8.ofNat (n / 65536)).toNat = n / 65536 % 256 := UInt8.toNat_ofNat'
  have e3 : (UInt8.ofNat (n / 256)).toNat = n / 256 % 256 := UInt8.toNat_ofNat'
  have e4 : (UInt8.ofNat n).toNat = n % 256 := UInt8.toNat_ofNat'
  show word4 (UInt8.ofNat (n / 16777216)).toNat (UInt8.ofNat (n / 65536)).toNat (UInt8.ofNat (n / 256)).toNat (UInt8.ofNat n).toNat = n
  unfold word4
  rw [e1, e2, e3, e4]
  omega
theorem fr_cuts (n e : Nat) {p : List UInt8} (h : p.length = 256) : (bstr (frB n e p)).extract 4 320 = bstr (be4 e ++ (List.replicate 56 0 ++ p)) ∧ (bstr (frB n e p)).extract 8 64 = bstr (List.replicate 56 0) ∧ (bstr (frB n e p)).extract 64 320 = bstr p := by
  have hl := frB_length n e h
  have h1 := length_be4 n
  have h2 := length_be4 e
  rw [ext_bstr, ext_bstr, ext_bstr]
  refine ⟨?_, ?_, ?_⟩
  · rw [List.take_of_length_le (by omega)]
    unfold frB
    rw [List.drop_append, h1, List.drop_of_length_le (by omega)]
    rfl
  · rfl
  · congr 1
    unfold frB
    apply List.ext_getElem?
    intro i
    rw [List.getElem?_drop, List.getElem?_take]
    by_cases c : i < 256
    · rw [if_pos (by omega), List.getElem?_append_right (by omega), List.getElem?_append_right (by omega), List.getElem?_append_right (by rw [List.length_replicate]; omega), h1, h2, List.length_replicate]
      congr 1
      try omega
    · rw [if_neg (by omega), List.getElem?_eq_none (by omega)]
end Go.Proofs.YteocmhbllckpjaaGreat
