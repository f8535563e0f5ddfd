/- A frame is laid. -/
import Derived.Test.YteocmhbllckpjaaGreatB4
namespace Go.Proofs.YteocmhbllckpjaaGreat
open Go.ChangeShapes Go.WideShapes Go.ChangeAt Go.RowKit
open Go.ChangeMaps (setBlock)
set_option linter.unusedVariables false

def z320 : List UInt8 := List.replicate 320 0
theorem z320_length : z320.length = 320 := List.length_replicate ..
theorem made320 (V : World) : (Instr.makeSlice 62 (.int .i64 320) (.int .i64 320)).run Tryz.prog V = .ok (.slice (some ⟨V.heap.size, 0, none⟩) 320 320) (V.alloc (.cells (bcs z320).toArray 5)) := by
  have hinf : (Tryz.prog.info? 5).map (fun i => (i.zero, i.size, i.bytes)) = some (some (.int .u8 0), 1, 1) := by kernel_rfl
  obtain ⟨i, h1, h2⟩ := Option.map_eq_some_iff.1 hinf
  simp only [Prod.mk.injEq] at h2
  have := run_makeSlice (P := Tryz.prog) V 62 5 i (.int .u8 0) Tryz.underlying62 h1 h2.1 .i64 .i64 320 320 (by omega) (by omega) (by rw [h2.2.1]; decide) (by rw [h2.2.2]; decide) (by omega)
  rw [this, h2.2.1]
  have e : madeCells (Value.int .u8 0).cells (Int.toNat 320 * 1) = (bcs z320).toArray := by kernel_rfl
  rw [e]
  rfl
theorem step_copyS {ops : Array Oper} {o : Oper} {a : Act} {K : Act → World → Prop} {Q : Exit → Act → World → Prop} {E : Prop} {W : World} {g off sb so m dl dc sc : Nat} {t : TypeId} {z d : List UInt8} (hg : Blk W g (bcs z).toArray t) (hsrc : W.rangeAt sb so (bcs d)) (hm : d.length = m) (hoff : off + m ≤ z.length) (hdl : m ≤ dl) (x y : Operand)
    (hgd : o.guard = none) (ho : o.op = .call { callee := .builtin .copy, args := #[x, y], argTypes := #[62, 62] }) (hx : a.eval x = .slice (some ⟨g, off, none⟩) dl dc) (hy : a.eval y = .slice (some ⟨sb, so, none⟩) m sc)
    (hk : ∀ W', Blk W' g (bcs (splice z off d)).toArray t → Only [g] W W' → K (a.put o.dst (goInt m)) W') :
    if Region.wanted o (yielded ops a.tmps) = true then Oper.wp Tryz.prog o a W K Q else E := by
  have hw : Region.wanted o (yielded ops a.tmps) = true := by simp [Region.wanted, hgd]
  rw [if_pos hw]
  have hr := run_copy_row (P := Tryz.prog) W 62 62 o.type 5 g off dl dc ⟨sb, so, none⟩ m sc (bcs z).toArray t (bcs d) Tryz.underlying62 (by kernel_rfl) hg (by rw [length_bcs, hm]; exact (Nat.min_eq_left hdl).symm) (fun j v hv => by
    rw [show (⟨sb, so, none⟩ : Addr).add j = ⟨sb, so + j, none⟩ by unfold Addr.add; split <;> simp_all]
    exact hsrc j v hv) (by rw [List.size_toArray, length_bcs, length_bcs]; omega) (one_bcs d)
  unfold Oper.wp execOp
  simp only [ho, resolve, invoke, builtin, Sem.run_bind, Sem.run_pure, Result.andThen_ok, List.map_toArray, List.map_cons, List.map_nil, hx, hy, hr]
  have hl : (bcs d).length = m := by rw [length_bcs, hm]
  rw [hl]
  refine hk _ ?_ ⟨rfl, rfl, rfl, by simp [World.setRow], fun k _ hk => setRow_other W g k _ (fun e => hk (by simp [e]))⟩
  have := setRow_heap W g (bcs z).toArray (((bcs z).toArray.toList.take off ++ bcs d ++ (bcs z).toArray.toList.drop (off + m)).toArray) t (0, 0) hg
  have e : ((bcs z).toArray.toList.take off ++ bcs d ++ (bcs z).toArray.toList.drop (off + m)) = bcs (splice z off d) := by rw [bcs_splice]; simp [splice, length_bcs, hm]
  rw [e] at this ⊢
  exact this
theorem conv_blk {w : World} {g : Nat} {l : List UInt8} {t : TypeId} {n : Nat} (hn : l.length = n) (hb : Blk w g (bcs l).toArray t) (c : Nat) : (convert 62 9 (.slice (some ⟨g, 0, none⟩) n c)).run Tryz.prog w = .ok (.string (bstr l)) w := by
  subst hn
  have hcell : ∀ i, i < l.length → w.cell? ⟨g, 0 + i, none⟩ = some (.int .u8 ((l.map fun b => (b.toNat : Int)).getD i 0)) := fun i hi => by
    rw [Nat.zero_add, hb.cell]
    simp [bcs, hi, List.getD]
  have hcv := run_convert_bytes_arg (P := Tryz.prog) w 62 5 Tryz.underlying62 Tryz.underlying5 g 0 l.length c (l.map fun b => (b.toNat : Int)) (by simp) hcell 9 Tryz.underlying9
  rw [strOfNums_bstr] at hcv
  exact hcv
theorem fr_gen {b c p : List UInt8} {a : Nat} (hb : b.length = 4) (hc : c.length = 4) (hp : p.length = 256) (ha : a = 320) : splice (splice (splice (List.replicate a 0) 0 b) 4 c) 64 p = b ++ (c ++ (List.replicate 56 0 ++ p)) := by
  subst ha
  have e : splice (List.replicate 320 (0 : UInt8)) 0 b = b ++ List.replicate 316 0 := by
    unfold splice
    rw [List.take_zero, List.nil_append, List.drop_replicate, hb]
  rw [e]
  have e2 : splice (b ++ List.replicate 316 (0 : UInt8)) 4 c = b ++ (c ++ List.replicate 312 0) := by
    unfold splice
    rw [List.take_append, hb, List.take_of_length_le (by omega), List.drop_append, hb, hc, List.drop_of_length_le (by omega), List.drop_replicate]
    simp only [Nat.sub_self, List.take_zero, List.append_nil, List.nil_append, Nat.reduceAdd, Nat.reduceSub]
  rw [e2]
  unfold splice
  rw [List.take_append, hb, List.take_of_length_le (by omega), List.take_append, hc, List.take_of_length_le (by omega), List.take_replicate, List.drop_of_length_le (by rw [List.length_append, List.length_append, List.length_replicate]; omega)]
  simp only [List.append_nil, List.append_assoc, Nat.reduceSub]
  rfl
theorem fr_splice (n e : Nat) {p : List UInt8} (h : p.length = 256) : splice (splice (splice z320 0 (be4 n)) 4 (be4 e)) 64 p = frB n e p := fr_gen (length_be4 n) (length_be4 e) h rfl

set_option maxHeartbeats 4000000 in
set_option maxRecDepth 100000 in
theorem layFrame_w (w : World) (n e : Nat) (hn : n < 4294967296) (he : e < 4294967296) (p : List UInt8) (pl : Bool) (hp : p.length = 256) :
    Calls Tryz.prog 90 #[.agg (fcl (n : Int) p e pl).toArray] w fun x w' => x = .returned (.string (bstr (frB n e p))) ∧ w.grownBy w' none := by
  obtain ⟨X, hX⟩ : ∃ X, X = (fcl (n : Int) p e pl).toArray := ⟨_, rfl⟩
  obtain ⟨Z, hZ⟩ : ∃ Z, Z = (bcs z320).toArray := ⟨_, rfl⟩
  have hmk := made320
  rw [← hZ] at hmk
  rw [← hX]
  have hbx : Blk (w.alloc (.cells X 167)) w.heap.size X 167 := alloc_new _ _
  have HBx : Hid (Blk ((w.alloc (.cells X 167)).alloc (.cells Z 5)) w.heap.size X 167) := (Below.heap_alloc _ _ _ hbx.lt).trans hbx
  have HBz : Hid (Blk ((w.alloc (.cells X 167)).alloc (.cells Z 5)) (w.heap.size + 1) (bcs z320).toArray 5) := by
    have := alloc_new (w.alloc (.cells X 167)) (.cells Z 5)
    rw [show (w.alloc (.cells X 167)).heap.size = w.heap.size + 1 by simp, hZ] at this
    rw [hZ]; exact this
  have HG : Hid (w.grownBy ((w.alloc (.cells X 167)).alloc (.cells Z 5)) none) := grown_trans' (World.grownBy_alloc _ _ _) (World.grownBy_alloc _ _ _)
  have hw1 : IntKind.u32.wrap (n : Int) = (n : Int) := by rw [IntKind.wrap_u32]; omega
  have cX := (HBx.out.cell 0).trans (show _ = some (Value.int .i64 (n : Int)) by rw [hX]; rfl)
  have HE0 : Hid (X[257]? = some (Value.int .u32 (e : Int))) := by show _ = _; rw [hX]; simpa using fcl_end (n : Int) e pl hp
  have HL1 := hideJ (fun V h => layNumber_w V (w.heap.size + 1) 0 320 320 n z320 5 h hn (by rw [z320_length]; omega) (by omega))
  have hl1 : (splice z320 0 (be4 n)).length = 320 := by rw [length_splice _ _ _ (by rw [length_be4, z320_length]; omega)]; exact z320_length
  have hl2 : (splice (splice z320 0 (be4 n)) 4 (be4 e)).length = 320 := by rw [length_splice _ _ _ (by rw [length_be4, hl1]; omega)]; exact hl1
  have HL2 := hideJ (fun V h => layNumber_w V (w.heap.size + 1) 4 316 316 e (splice z320 0 (be4 n)) 5 h he (by rw [hl1]; omega) (by omega))
  have HS3 : Hid (splice (splice (splice z320 0 (be4 n)) 4 (be4 e)) 64 p = frB n e p ∧ (splice (splice z320 0 (be4 n)) 4 (be4 e)).length = 320) := ⟨fr_splice n e hp, hl2⟩
  have HP := hideJ hp
  have HX := hideJ hX
  have HL3 := hideJ (frB_length n e hp)
  clear hbx hZ hX hn he hp hl1 hl2
  go_enter Tryz.func90, Tryz.ntmps90
  go_upto_region 3 with (go_at_call 125; (with_reducible refine Calls.mono (HL1.out _ HBz.out) ?_); rintro x W1 ⟨⟨v1, rfl⟩, hb1, ho1⟩; have HB1 := hideJ hb1; have HG1 := hideJ (grown_only HG.out ho1 (by omega)); have HX1 := hideJ (only_blk HBx.out ho1 (by omega)); clear hb1 ho1)
  clear cX
  have cE := (Blk.cell (show Blk W1.drew w.heap.size X 167 from HX1.out) 257).trans HE0.out
  have HBd : Hid (Blk W1.drew (w.heap.size + 1) (bcs (splice z320 0 (be4 n))).toArray 5) := HB1.out
  have HS0 := hideJ cE
  clear cE
  go_region_held3 (fun V => V.cell? ⟨w.heap.size, 257, none⟩ = some (Value.int .u32 (e : Int))) (first | with_reducible exact HS0.out | with_reducible exact HS2.out) (first
    | (go_at_call 125; (with_reducible refine Calls.mono (HL2.out _ HBd.out) ?_); rintro x W2 ⟨⟨v2, rfl⟩, hb2, ho2⟩; have HB2 := hideJ hb2; have HG2 := hideJ (grown_only (grown_trans' HG1.out (World.grownBy_drew W1)) ho2 (by omega)); have HX2 := hideJ (only_blk (Blk.grown HX1.out (World.grownBy_drew W1)) ho2 (by omega)); have HS2 := hideJ ((HX2.out.cell 257).trans HE0.out); clear hb2 ho2))
  all_goals
    have HX3 : Hid (Blk W2.drew w.heap.size X 167) := HX2.out
    have HB3 : Hid (Blk W2.drew (w.heap.size + 1) (bcs (splice (splice z320 0 (be4 n)) 4 (be4 e))).toArray 5) := HB2.out
    have HR3 : Hid (W2.drew.rangeAt w.heap.size 1 (bcs p)) := fun j v hv => by
      rw [HX3.out.cell, HX.out, Nat.add_comm, List.getElem?_toArray]
      have hj : j < (bcs p).length := (List.getElem?_eq_some_iff.1 hv).1
      unfold fcl
      rw [List.getElem?_cons_succ, List.getElem?_append_left hj]
      exact hv
    go_upto_region 4 with fail
    go_region_held3 (fun V => True) (exact trivial) (first
      | (refine step_copyS (off := 64) (dl := 256) (d := p) (z := splice (splice z320 0 (be4 n)) 4 (be4 e)) HB3.out HR3.out HP.out (by rw [HS3.out.2]; omega) (by omega) _ _ (by rfl) (by rfl) (by rfl) (by rfl) ?_; intro W5 hb5 ho5; rw [HS3.out.1] at hb5; have HG5 := hideJ (grown_only (grown_trans' HG2.out (World.grownBy_drew W2)) ho5 (by omega)); have hcv := conv_blk HL3.out hb5 320; clear hb5 ho5))
    all_goals
      go_wp2
      go_ret
      exact ⟨rfl, HG5.out⟩
end Go.Proofs.YteocmhbllckpjaaGreat
