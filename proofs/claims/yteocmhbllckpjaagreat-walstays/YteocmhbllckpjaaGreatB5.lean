/- A frame is read. -/
import Derived.Test.YteocmhbllckpjaaGreatB4
namespace Go.Proofs.YteocmhbllckpjaaGreat
open Go.ChangeShapes Go.WideShapes Go.ChangeAt Go.RowKit
open Go.ChangeMaps (setBlock)
set_option linter.unusedVariables false

theorem step_storeX {ops : Array Oper} {o : Oper} {a : Act} {w : World} {K : Act → World → Prop} {Q : Exit → Act → World → Prop} {E : Prop} {g : Nat} {t : TypeId} {c z : Array Value} (hi : (Tryz.prog.info? t).map (·.size) = some c.size) (hs : c.size = z.size) (h1 : c.all (·.oneCell') = true) (hg : Blk w g z t) (x y : Operand)
    (hgd : o.guard = none) (ho : o.op = .store t x y) (hx : a.eval x = .pointer (some ⟨g, 0, none⟩)) (hy : a.eval y = .agg c)
    (h : ∀ W', Blk W' g c t → Only [g] w W' → K (a.put o.dst undef) W') : if Region.wanted o (yielded ops a.tmps) = true then Oper.wp Tryz.prog o a w K Q else E := by
  have hw : Region.wanted o (yielded ops a.tmps) = true := by simp [Region.wanted, hgd]
  rw [if_pos hw]
  exact wp_store_row t x y ho g c hx hy t z hg hi hs.symm h1 (h _ (setRow_heap w g _ _ _ _ hg) ⟨rfl, rfl, rfl, by simp [World.setRow], fun k _ hk => setRow_other w g k _ (fun e => hk (by simp [e]))⟩)

set_option maxRecDepth 100000 in
theorem set167 (e : Nat) : (Tryz.zeroCells167.setIfInBounds 257 (.int .u32 (e : Int))).setIfInBounds 258 (.bool true) = (fcl 0 z256 e true).toArray := by
  have h : Tryz.zeroCells167 = (fcl 0 z256 0 false).toArray := by rw [← zero167]
  rw [h]
  simp only [List.setIfInBounds_toArray]
  congr 1

set_option maxRecDepth 100000 in
theorem list167 (e : Nat) : (Tryz.zeroCells167.toList.set 257 (.int .u32 (e : Int))).set 258 (.bool true) = fcl 0 z256 e true := by
  rw [zero167]
  rfl
theorem store167 {V : World} {g : Nat} {z : Array Value} (e : Nat) (hb : Blk V g z 167) (hz : z.size = 259) : ∃ W, (storeCells ⟨g, 0, none⟩ ((Tryz.zeroCells167.toList.set 257 (.int .u32 (e : Int))).set 258 (.bool true))).run Tryz.prog V = .ok () W ∧ Blk W g (fcl 0 z256 e true).toArray 167 ∧ Only [g] V W := by
  rw [list167]
  have hl := fcl_length 0 e true z256_length
  have h1 : ∀ v ∈ fcl 0 z256 e true, v.oneCell' = true := by
    have := fcl_all 0 z256 e true
    simpa using this
  refine ⟨_, run_storeCells_from (P := Tryz.prog) g 167 (fcl 0 z256 e true) 0 z V hb (by rw [hl, hz]) h1, ?_, ⟨rfl, rfl, rfl, by simp [World.setRow], fun k _ hk => setRow_other V g k _ (fun e => hk (by simp [e]))⟩⟩
  rw [List.take_zero, List.nil_append]
  exact setRow_heap V g _ _ _ _ hb

set_option maxHeartbeats 4000000 in
set_option maxRecDepth 100000 in
theorem readFrame_w (w : World) (n e : Nat) (hn : n < 4294967296) (he : e < 4294967296) (p : List UInt8) (hp : p.length = 256) :
    Calls Tryz.prog 121 #[.string (bstr (frB n e p))] w fun x w' => x = .returned (.agg (fcl (n : Int) p e true).toArray) ∧ w.grownBy w' none := by
  have hs : (bstr (frB n e p)).size = 320 := by rw [bstr_size, frB_length n e hp]
  obtain ⟨x1, x2, x3⟩ := fr_cuts n e hp
  obtain ⟨s, hS⟩ : ∃ s, s = bstr (frB n e p) := ⟨_, rfl⟩
  have HN1 : Hid (∀ V, Calls Tryz.prog 138 #[.string s] V fun e w' => e = .returned (.int .u32 (n : Int)) ∧ V = w') := fun V => by
    have := readNumber_w V (frB n e p) (by rw [frB_length n e hp]; omega)
    rw [show wordAt (frB n e p) 0 = n from wordAt_be4 hn _] at this
    rw [hS]; exact this
  have HN2 : Hid (∀ V, Calls Tryz.prog 138 #[.string (s.extract 4 320)] V fun x w' => x = .returned (.int .u32 (e : Int)) ∧ V = w') := fun V => by
    have := readNumber_w V (be4 e ++ (List.replicate 56 0 ++ p)) (by rw [List.length_append, length_be4]; omega)
    rw [wordAt_be4 he] at this
    rw [hS, x1]; exact this
  have HZ0 : Hid (∀ V, Calls Tryz.prog 139 #[.string (s.extract 8 64)] V fun x w' => x = .returned (.bool true) ∧ V = w') := fun V => by
    rw [hS, x2]; exact isZeros_w V 56 (by omega)
  have HS3 : Hid (s.extract 64 320 = bstr p) := by show _ = _; rw [hS]; exact x3
  rw [← hS] at hs ⊢
  obtain ⟨Z, hZs, hZ⟩ := new167 w
  have HZs := hideJ hZs
  have HZ := hideJ hZ
  have HG := hideJ (World.grownBy_alloc w (.cells Tryz.zeroCells167 167) none)
  have HP := hideJ hp
  have HN := hideJ hn
  have HE := hideJ he
  clear x1 x2 x3 hS hZ hZs hp hn he
  go_enter Tryz.func121, Tryz.ntmps121
  go_upto_region 1 with fail
  go_name_world W0 hW0
  rw [hW0] at HZ HG
  obtain ⟨Z2, hZ2s, hZ2⟩ : ∃ z : Array Value, z.size = 259 ∧ Blk (W0.alloc (.cells Tryz.zeroCells167 167)).drew W0.heap.size z 167 := new167 W0
  have HZ2 := hideJ hZ2
  have HG2 : Hid (w.grownBy (W0.alloc (.cells Tryz.zeroCells167 167)).drew none) := grown_trans' (grown_trans' HG.out (World.grownBy_alloc _ _ _)) (World.grownBy_drew _)
  have HZ1 : Hid (Blk (W0.alloc (.cells Tryz.zeroCells167 167)).drew w.heap.size Z 167) := Blk.grown (Blk.grown HZ.out (World.grownBy_alloc W0 _ _)) (World.grownBy_drew _)
  have HLt : Hid (w.heap.size < W0.heap.size) := HZ.out.lt
  obtain ⟨W5, hst, hb5, ho5⟩ := store167 e HZ2.out hZ2s
  have HB5 := hideJ hb5
  have HG5 := hideJ (grown_only HG2.out ho5 (by have := HLt.out; omega))
  have HZ5 := hideJ (only_blk HZ1.out ho5 (by have := HLt.out; omega))
  clear hb5 ho5
  clear hZ2 hZ2s hW0
  go_region_held3 (fun V => True) (exact trivial) (first
    | (go_at_call 138; (with_reducible refine Calls.mono (HN2.out _) ?_); rintro x w3 ⟨rfl, rfl⟩)
    | (go_at_call 139; (with_reducible refine Calls.mono (HZ0.out _) ?_); rintro x w3 ⟨rfl, rfl⟩))
  all_goals
    have hw64 : IntKind.i64.wrap (n : Int) = (n : Int) := by have := HN.out; rw [IntKind.wrap_i64]; omega
    have hc0 := (HB5.out.cell 0).trans (show _ = some (Value.int .i64 0) from rfl)
    have hf0 := HB5.out.frozen 0
    have HB6 : Hid (Blk (W5.setCell ⟨W0.heap.size, 0, none⟩ (.int .i64 (n : Int))) W0.heap.size (fcl (n : Int) z256 e true).toArray 167) := HB5.out.set 0 _
    have HG6 := hideJ (grown_only HG5.out (onlyAt W5 W0.heap.size 0 (.int .i64 (n : Int))) (by have := HLt.out; omega))
    have HZ6 := hideJ (only_blk HZ5.out (onlyAt W5 W0.heap.size 0 (.int .i64 (n : Int))) (by have := HLt.out; omega))
    clear hst
    go_upto_region 3 with (go_at_call 138; (with_reducible refine Calls.mono (HN1.out _) ?_); rintro x w3 ⟨rfl, rfl⟩)
    go_name_world W6 hW6
    rw [hW6] at HB6 HG6 HZ6
    clear hW6 hc0 hf0
    have HB6d : Hid (Blk W6.drew W0.heap.size (fcl (n : Int) z256 e true).toArray 167) := HB6.out
    go_region_held3 (fun V => True) (exact trivial) (first
      | (refine step_copyF (p := p) HP.out HB6d.out _ _ (by rfl) (by rfl) (by rfl) (by first | rfl | (rw [← HS3.out]; rfl)) ?_; intro W7 hb7 ho7; have HB7 := hideJ hb7; have HG7 := hideJ (grown_only (grown_trans' HG6.out (World.grownBy_drew W6)) ho7 (by have := HLt.out; omega)); have HZ7 := hideJ (only_blk (Blk.grown HZ6.out (World.grownBy_drew W6)) ho7 (by have := HLt.out; omega)); clear hb7 ho7))
    all_goals
      have HI7 := hideJ (size167 (n := (n : Int)) (p := p) (e := e) (pl := true) HP.out)
      have HA7 := hideJ (fcl_all (n : Int) p e true)
      have HS7 : Hid ((fcl (n : Int) p e true).toArray.size = Z.size) := by show _ = _; rw [List.size_toArray, fcl_length _ _ _ HP.out, HZs.out]
      generalize hC : (fcl (n : Int) p e true).toArray = C at HI7 HA7 HS7 HB7 ⊢
      have HC := hideJ hC
      clear hC
      go_wp2_with (first
        | ((with_reducible refine at167L ?_); refine wp_loadB (c := C) HI7.out u167 HB7.out _ (by rfl) (by rfl) (by rfl) ?_)
        | ((with_reducible refine at167S ?_); refine wp_storeB (c := C) HI7.out HS7.out HA7.out HZ7.out _ _ (by rfl) (by rfl) (by rfl) (by rfl) ?_; intro W8 hb8 ho8; have HB8 := hideJ hb8; have HG8 := hideJ (grown_only HG7.out ho8 (by omega)); clear hb8 ho8))
      refine ret_blk HI7.out u167 (by rfl) (by rfl) HB8.out ?_
      exact ⟨by rw [HC.out], HG8.out⟩
end Go.Proofs.YteocmhbllckpjaaGreat
