/- A disk without files: what it tells; the journal and the log on it. -/
/- A disk without files, read; the journal on it. -/
/- The log on a disk without files. -/
import Derived.Test.YtenfjbcigkolaaaGreatTA
import Derived.WalkSpells
import Derived.Maps.RangeRun
import Derived.RangeFuncNested
import Derived.RangeFuncBound
import Derived.RangeFuncCalls
import Derived.RangeFuncLeaves
import Derived.RangeFuncWrites
import Derived.Shelf.Abstract
import Derived.Shelf.RegionOpen
import Derived.OwnWalkIn
import Derived.TacticsInMore
import Derived.LoopNIn
import Derived.LoopIn
namespace Go.Proofs.YtenfjbcigkolaaaGreat
open Go.ChangeShapes Go.WideShapes Go.ChangeAt Go.RowKit Go.Maps
set_option linter.unusedVariables false

/-- The cells of a disk without files that is up. -/
def dkc (mb : Nat) (room : Int) : Array Value := #[.map (some mb), .slice none 0 0, .int .i64 room, .int .i64 0, .int .i64 0, .int .i64 0, .bool false]
structure DE (w : World) (d mb : Nat) (room : Int) : Prop where
  blk : Blk w d (dkc mb room) 148
  mp : w.heap[mb]? = some (.map #[] 0)
theorem DE.later {w w' : World} {d mb : Nat} {room : Int} (h : DE w d mb room) (hb : Below w.heap.size w w') : DE w' d mb room :=
  ⟨h.blk.later hb, (hb.block mb (Array.getElem?_eq_some_iff.1 h.mp).1).trans h.mp⟩
theorem DE.drew {w : World} {d mb : Nat} {room : Int} (h : DE w d mb room) : DE w.drew d mb room := ⟨h.blk, h.mp⟩
theorem DE.c0 {w : World} {d mb : Nat} {room : Int} (h : DE w d mb room) : w.cell? ⟨d, 0, none⟩ = some (.map (some mb)) := h.blk.cell 0
theorem DE.c5 {w : World} {d mb : Nat} {room : Int} (h : DE w d mb room) : w.cell? ⟨d, 5, none⟩ = some (.int .i64 0) := h.blk.cell 5
theorem DE.c6 {w : World} {d mb : Nat} {room : Int} (h : DE w d mb room) : w.cell? ⟨d, 6, none⟩ = some (.bool false) := h.blk.cell 6

theorem ckey (w : World) (nm : ByteArray) (e : Bool) : (Instr.checkKey e 10000 9 (.string nm)).run Tryz.prog w = .ok () w :=
  MapKept.run_checkKey (d := .string) (k := .string nm) Tryz.underlying9 trivial e 9999
theorem find_none (nm : ByteArray) : Instr.findNow .string (.string nm) [] 0 = some none := rfl
theorem look_none (w : World) (mb : Nat) (nm : ByteArray) (hm : w.heap[mb]? = some (.map #[] 0)) :
    (Instr.lookup 145 (.map (some mb)) (.string nm) false).run Tryz.prog w = .ok (.pointer none) w := by
  have hz : (zeroValue 314).run Tryz.prog w = .ok (.pointer none) w := by kernel_rfl
  simp [Instr.lookup, run_underlying Tryz.underlying145, MapKept.run_getObj_map hm, ckey w nm, MapKept.run_findKey (d := .string) Tryz.underlying9 (find_none nm), Result.andThen, hz]

theorem made_e (w : World) (d mb : Nat) (room : Int) (h : DE w d mb room) : Calls Tryz.prog 121 #[.pointer (some ⟨d, 0, none⟩)] w fun e w' => e = .returned (.bool true) ∧ w = w' := by
  have k1 := fun (w : World) (r : Option Nat) => run_neq_map_nil (P := Tryz.prog) w 145 9 314 r Tryz.underlying145
  have c0 := h.c0
  clear h
  go_enter Tryz.func121, Tryz.ntmps121
  go_wp2
  go_ret
  exact ⟨rfl, rfl⟩
theorem refusal_e (w : World) (d mb : Nat) (room : Int) (h : DE w d mb room) : Calls Tryz.prog 187 #[.pointer (some ⟨d, 0, none⟩)] w fun e w' => e = .returned (.int .i64 0) ∧ w = w' := by
  have HM := hide (made_e w d mb room h)
  have c6 := h.c6
  clear h
  go_enter Tryz.func187, Tryz.ntmps187
  go_wp2_with (go_at_call 121; (with_reducible refine Calls.mono HM.out ?_); rintro e w0 ⟨rfl, rfl⟩)
  go_ret
  exact ⟨rfl, rfl⟩
theorem down_e (w : World) (d mb : Nat) (room : Int) (h : DE w d mb room) : Calls Tryz.prog 298 #[.pointer (some ⟨d, 0, none⟩)] w fun e w' => e = .returned (.bool false) ∧ w = w' := by
  have HM := hide (made_e w d mb room h)
  have c6 := h.c6
  clear h
  go_enter Tryz.func298, Tryz.ntmps298
  go_wp2_with (go_at_call 121; (with_reducible refine Calls.mono HM.out ?_); rintro e w0 ⟨rfl, rfl⟩)
  go_ret
  exact ⟨rfl, rfl⟩
theorem starts_e (w : World) (d mb : Nat) (room : Int) (h : DE w d mb room) : Calls Tryz.prog 56 #[.pointer (some ⟨d, 0, none⟩)] w fun e w' => e = .returned (.int .i64 0) ∧ w = w' := by
  have HM := hide (made_e w d mb room h)
  have c5 := h.c5
  clear h
  go_enter Tryz.func56, Tryz.ntmps56
  go_wp2_with (go_at_call 121; (with_reducible refine Calls.mono HM.out ?_); rintro e w0 ⟨rfl, rfl⟩)
  go_ret
  exact ⟨rfl, rfl⟩
theorem seen_e (w : World) (d mb : Nat) (room : Int) (h : DE w d mb room) (nm : ByteArray) : Calls Tryz.prog 188 #[.pointer (some ⟨d, 0, none⟩), .string nm] w fun e w' => e = .returned (.pointer (some ⟨w.heap.size, 0, none⟩)) ∧ w' = w.alloc (.cells #[.slice none 0 0] 318) := by
  have c0 := h.c0
  have hl := look_none w mb nm h.mp
  clear h
  go_enter Tryz.func188, Tryz.ntmps188
  go_wp2
  go_ret
  exact ⟨rfl, rfl⟩
theorem size_e (w : World) (q : Nat) (hc : w.cell? ⟨q, 0, none⟩ = some (.slice none 0 0)) : Calls Tryz.prog 219 #[.pointer (some ⟨q, 0, none⟩)] w fun e w' => e = .returned (.int .i64 0) ∧ w = w' := by
  go_enter Tryz.func219, Tryz.ntmps219
  go_wp2
  go_ret
  exact ⟨rfl, rfl⟩
end Go.Proofs.YtenfjbcigkolaaaGreat

namespace Go.Proofs.YtenfjbcigkolaaaGreat
open Go.ChangeShapes Go.WideShapes Go.ChangeAt Go.RowKit Go.Maps
set_option linter.unusedVariables false

theorem conv_nil (V : World) : (convert 53 9 (.slice none 0 0)).run Tryz.prog V = .ok (.string ⟨#[]⟩) V := by kernel_rfl
theorem slice_nil (V : World) : (Instr.slice 53 (.slice none 0 0) (some (.int .i64 0)) (some (.int .i64 0)) none).run Tryz.prog V = .ok (.slice none 0 0) V := by kernel_rfl
set_option maxRecDepth 20000 in
theorem read_e (w : World) (q : Nat) (hc : w.cell? ⟨q, 0, none⟩ = some (.slice none 0 0)) (at_ n : Int) (h : (at_ = 0 ∨ at_ = 64) ∧ (n = 0 ∨ n = 64)) : Calls Tryz.prog 189 #[.pointer (some ⟨q, 0, none⟩), .int .i64 at_, .int .i64 n] w fun e w' => e = .returned (.string ⟨#[]⟩) ∧ w = w' := by
  have HS := hide (size_e w q hc)
  have hcv := conv_nil
  have hsl := slice_nil
  obtain ⟨rfl | rfl, rfl | rfl⟩ := h
  all_goals
    go_enter Tryz.func189, Tryz.ntmps189
    go_wp2_with (go_at_call 219; (with_reducible refine Calls.mono HS.out ?_); rintro e w0 ⟨rfl, rfl⟩)
    go_ret
    exact ⟨rfl, rfl⟩
theorem Read_e (w : World) (d mb : Nat) (room : Int) (h : DE w d mb room) (nm : ByteArray) (at_ n : Int) (hn : (at_ = 0 ∨ at_ = 64) ∧ (n = 0 ∨ n = 64)) : Calls Tryz.prog 153 #[.pointer (some ⟨d, 0, none⟩), .string nm, .int .i64 at_, .int .i64 n] w fun e w' => e = .returned (.tuple #[.string ⟨#[]⟩, .int .i64 0]) ∧ Below w.heap.size w w' := by
  have HR := hide (refusal_e w d mb room h)
  have HS := hide (seen_e w d mb room h nm)
  have HB := hide (below_alloc w (.cells #[.slice none 0 0] 318))
  have HQ := hide (read_e (w.alloc (.cells #[.slice none 0 0] 318)) w.heap.size ((Blk.new w #[.slice none 0 0] 318).cell 0) at_ n hn)
  have l0 : ¬ at_ < 0 := by omega
  have l1 : ¬ n < 0 := by omega
  clear h hn
  go_enter Tryz.func153, Tryz.ntmps153
  go_wp2_with (first
    | (go_at_call 187; (with_reducible refine Calls.mono HR.out ?_); rintro e w0 ⟨rfl, rfl⟩)
    | (go_at_call 188; (with_reducible refine Calls.mono HS.out ?_); rintro e w1 ⟨rfl, rfl⟩)
    | (go_at_call 189; (with_reducible refine Calls.mono HQ.out ?_); rintro e w2 ⟨rfl, rfl⟩))
  go_ret2
  exact ⟨rfl, HB.out⟩
theorem Len_e (w : World) (d mb : Nat) (room : Int) (h : DE w d mb room) (nm : ByteArray) : Calls Tryz.prog 200 #[.pointer (some ⟨d, 0, none⟩), .string nm] w fun e w' => e = .returned (.int .i64 0) ∧ Below w.heap.size w w' := by
  have HR := hide (refusal_e w d mb room h)
  have HS := hide (seen_e w d mb room h nm)
  have HB := hide (below_alloc w (.cells #[.slice none 0 0] 318))
  have HQ := hide (size_e (w.alloc (.cells #[.slice none 0 0] 318)) w.heap.size ((Blk.new w #[.slice none 0 0] 318).cell 0))
  clear h
  go_enter Tryz.func200, Tryz.ntmps200
  go_wp2_with (first
    | (go_at_call 187; (with_reducible refine Calls.mono HR.out ?_); rintro e w0 ⟨rfl, rfl⟩)
    | (go_at_call 188; (with_reducible refine Calls.mono HS.out ?_); rintro e w1 ⟨rfl, rfl⟩)
    | (go_at_call 219; (with_reducible refine Calls.mono HQ.out ?_); rintro e w2 ⟨rfl, rfl⟩))
  go_ret
  exact ⟨rfl, HB.out⟩
theorem jcount_e (w : World) (d mb : Nat) (room : Int) (h : DE w d mb room) : Calls Tryz.prog 162 #[.pointer (some ⟨d, 0, none⟩)] w fun e w' => e = .returned (.int .i64 0) ∧ Below w.heap.size w w' := by
  have HL := hide (fun nm => Len_e w d mb room h nm)
  clear h
  go_enter Tryz.func162, Tryz.ntmps162
  go_wp2_with (go_at_call 200; (with_reducible refine Calls.mono (HL.out _) ?_); rintro e w0 ⟨rfl, hb⟩; have HB := hide hb; clear hb)
  go_ret
  exact ⟨rfl, HB.out⟩
theorem jrefusal_e (w : World) (d mb : Nat) (room : Int) (h : DE w d mb room) : Calls Tryz.prog 117 #[.agg #[.pointer (some ⟨d, 0, none⟩)]] w fun e w' => e = .returned (.int .i64 0) ∧ Below w.heap.size w w' := by
  have HD := hide (fun nm => Read_e _ d mb room (h.later (below_alloc w (.cells #[.pointer (some ⟨d, 0, none⟩)] 191))) nm 0 0 ⟨.inl rfl, .inl rfl⟩)
  have HB := hide (below_alloc w (.cells #[.pointer (some ⟨d, 0, none⟩)] 191))
  clear h
  go_enter Tryz.func117, Tryz.ntmps117
  go_wp2_with (go_at_call 153; (with_reducible refine Calls.mono (HD.out _) ?_); rintro e w0 ⟨rfl, hb⟩; have HB1 := hide (below_trans HB.out hb); clear hb)
  go_ret
  exact ⟨rfl, HB1.out⟩
def wz : Array Value := #[.int .u32 0, .int .u32 0, .int .u32 0, .int .u32 0]
theorem infoW : (Tryz.prog.info? 245).map (·.size) = some 4 := by kernel_rfl
theorem uW : ∃ d, Tryz.prog.underlying 245 = some d ∧ d.isRow = true := ⟨_, Tryz.underlying245, rfl⟩
theorem wz_one : wz.all (·.oneCell') = true := all_oneCell_toArray (cs := [Value.int .u32 0, .int .u32 0, .int .u32 0, .int .u32 0]) (by intro v hv; simp at hv; rcases hv with rfl | rfl | rfl | rfl <;> rfl)
set_option maxRecDepth 20000 in
set_option maxHeartbeats 2000000 in
theorem head_e (w : World) (d mb : Nat) (room : Int) (h : DE w d mb room) : Calls Tryz.prog 154 #[.agg #[.pointer (some ⟨d, 0, none⟩)]] w fun e w' => e = .returned (.agg wz) ∧ Below w.heap.size w w' := by
  have HB : Hid (Below w.heap.size w ((w.alloc (.cells #[.pointer (some ⟨d, 0, none⟩)] 191)).alloc (.cells wz 245))) := below_trans (below_alloc _ _) (below_alloc _ _)
  have HD := hide (fun nm => Read_e _ d mb room (h.later HB.out) nm 0 64 ⟨.inl rfl, .inr rfl⟩)
  have HZ : Hid (Blk ((w.alloc (.cells #[.pointer (some ⟨d, 0, none⟩)] 191)).alloc (.cells wz 245)) (w.heap.size + 1) wz 245) := by
    have := Blk.new (w.alloc (.cells #[.pointer (some ⟨d, 0, none⟩)] 191)) wz 245
    rwa [show (w.alloc (.cells #[.pointer (some ⟨d, 0, none⟩)] 191)).heap.size = w.heap.size + 1 by simp] at this
  have HI := hide infoW
  clear h
  go_enter Tryz.func154, Tryz.ntmps154
  go_wp2_with (first
    | (go_at_call 153; (with_reducible refine Calls.mono (HD.out _) ?_); rintro e w0 ⟨rfl, hb⟩; have HB1 := hide (below_trans HB.out hb); have HZ1 := hide (HZ.out.later hb); clear hb)
    | ((with_reducible refine atSt 245 ?_); refine wp_storeB (c := wz) HI.out (by rfl) wz_one HZ1.out _ _ (by rfl) (by rfl) (by rfl) (by rfl) ?_; intro W5 hb5 ho5; have HB5 := hide hb5; have HG5 := hide (below_only1 HB1.out ho5 (by omega)); clear hb5 ho5))
  refine ret_blk (c := wz) HI.out uW (by rfl) (by rfl) HB5.out ?_
  exact ⟨rfl, HG5.out⟩
set_option maxRecDepth 20000 in
theorem hot_e (w : World) (d mb : Nat) (room : Int) (h : DE w d mb room) : Calls Tryz.prog 118 #[.pointer (some ⟨d, 0, none⟩)] w fun e w' => e = .returned (.bool false) ∧ Below w.heap.size w w' := by
  have HD := hide (head_e w d mb room h)
  have hx : ∀ V : World, (Instr.index 245 (.agg wz) (.int .i64 0)).run Tryz.prog V = .ok (.int .u32 0) V := fun V => by kernel_rfl
  clear h
  go_enter Tryz.func118, Tryz.ntmps118
  go_wp2_with (go_at_call 154; (with_reducible refine Calls.mono HD.out ?_); rintro e w0 ⟨rfl, hb⟩; have HB := hide hb; clear hb)
  go_ret
  exact ⟨rfl, HB.out⟩
theorem recover_e (w : World) (d mb : Nat) (room : Int) (h : DE w d mb room) : Calls Tryz.prog 54 #[.pointer (some ⟨d, 0, none⟩)] w fun e w' => e = .returned (.tuple #[.bool false, .int .i64 0]) ∧ Below w.heap.size w w' := by
  have HR := hide (fun V (hb : Below w.heap.size w V) => jrefusal_e V d mb room (h.later hb))
  have HH := hide (fun V (hb : Below w.heap.size w V) => hot_e V d mb room (h.later hb))
  have HB := hide (below_alloc w (.cells #[.pointer (some ⟨d, 0, none⟩)] 191))
  clear h
  go_enter Tryz.func54, Tryz.ntmps54
  go_wp2_with (first
    | (go_at_call 117; (with_reducible refine Calls.mono (HR.out _ HB.out) ?_); rintro e w0 ⟨rfl, hb⟩; have HB1 := hide (below_trans HB.out hb); clear hb)
    | (go_at_call 118; (with_reducible refine Calls.mono (HH.out _ HB1.out) ?_); rintro e w1 ⟨rfl, hb⟩; have HB2 := hide (below_trans HB1.out hb); clear hb))
  go_ret2
  exact ⟨rfl, HB2.out⟩
end Go.Proofs.YtenfjbcigkolaaaGreat

namespace Go.Proofs.YtenfjbcigkolaaaGreat
open Go.ChangeShapes Go.WideShapes Go.ChangeAt Go.RowKit Go.Maps Go.Shelf
set_option linter.unusedVariables false
attribute [local go_sem] Oper.semAt_some

/-- The log without frames. -/
def lg0 (d : Nat) : Array Value := #[.pointer (some ⟨d, 0, none⟩), .string ⟨#[]⟩, .int .i64 0]
theorem infoG : (Tryz.prog.info? 194).map (·.size) = some 3 := by kernel_rfl
theorem uG : ∃ d, Tryz.prog.underlying 194 = some d ∧ d.isRow = true := ⟨_, Tryz.underlying194, rfl⟩
theorem lg_one {a : Option Addr} {s : ByteArray} {k : Int} : (#[Value.pointer a, .string s, .int .i64 k]).all (·.oneCell') = true := all_oneCell_toArray (cs := [Value.pointer a, .string s, .int .i64 k]) (by intro v hv; simp at hv; rcases hv with rfl | rfl | rfl <;> rfl)
theorem frames_e (w : World) (d : Nat) : Calls Tryz.prog 198 #[.agg #[.pointer (some ⟨d, 0, none⟩), .string ⟨#[]⟩, .int .i64 0], .int .i64 0] w fun x w' => x = .returned (.func (.func 225) #[] #[.pointer (some ⟨w.heap.size + 1, 0, none⟩), .pointer (some ⟨w.heap.size, 0, none⟩)]) ∧ w' = (w.alloc (.cells #[.pointer (some ⟨d, 0, none⟩), .string ⟨#[]⟩, .int .i64 0] 194)).alloc (.cells #[.int .i64 0] 3) := by
  go_enter Tryz.func198, Tryz.ntmps198
  go_wp2
  go_ret
  exact ⟨rfl, rfl⟩
theorem belowK_b {w : World} {B : Nat} (hB : B ≤ w.heap.size) (W : World) (D : Nat) (o o' : Obj) (hD : B ≤ D) (h : W.heap[D]? = some o) : Below B W (W.putObj D o') :=
  ⟨rfl, rfl, rfl, (grownBy_putObj' W D o').size, fun k hk => (grownBy_putObj' W D o').block k (by have := (Array.getElem?_eq_some_iff.1 h).1; omega) (fun e => by simp at e; omega)⟩
/-- The frames of a log without frames: none. -/
theorem frames_none (n bm bl : Nat) (Kp : World → World → Prop) (w : World) (hw : bm < w.heap.size) (hbm : Blk w bm #[.int .i64 0] 3) :
    SeqStopsK Fence.wide n Tryz.prog 225 #[.pointer (some ⟨bm, 0, none⟩), .pointer (some ⟨bl, 0, none⟩)] (fun x : Empty => x.elim) Kp (fun ys => ys = []) (fun _ => False) 0 w := fun lp J Jx W hW hJ _ hY h0 => by
  have cm : W.cell? ⟨bm, 0, none⟩ = some (.int .i64 0) := (hbm.later hW).cell 0
  refine callsIn_of_wp Tryz.func225 rfl trivial ?_ rfl
  simp only [Tryz.ntmps225, List.size_toArray, List.length_cons, List.length_nil, Nat.reduceAdd, Nat.reduceSub, Array.replicate_succ, Array.replicate_zero, List.push_toArray, List.append_toArray, List.nil_append, List.cons_append]
  gi_wp2
  refine wpIn_loop_rounds 1 ?_
  rw [roundsIn_succ]
  gi_wp2
  go_end0
  exact ⟨⟨_, rfl⟩, .inl ⟨[], rfl, h0⟩⟩
/-- Between two rounds. -/
def WhI (w : World) (sz : Nat) (pre : List Empty) (W : World) : Prop := Boxed W (w.heap.size + 1) 4 (.bool false) ∧ Boxed W (w.heap.size + 1 + 1) 4 (.bool true) ∧ Below w.heap.size w W ∧ sz ≤ W.heap.size
theorem whI_own (w : World) (sz B : Nat) (h : w.heap.size ≤ B) : OwnFrom B (WhI w sz) :=
  OwnFrom.and (Own.from (boxed_own _ _ (fun _ : List Empty => .bool false)) _) (OwnFrom.and (Own.from (boxed_own _ _ (fun pre : List Empty => .bool true)) _) (OwnFrom.and (ownFrom_below (Nat.le_refl _) h) (fun s X Y row hs hg _ => Nat.le_trans hs hg.size)))
set_option maxRecDepth 100000 in
set_option maxHeartbeats 4000000 in
theorem whole_e (w : World) (d : Nat) : Calls Tryz.prog 161 #[.agg #[.pointer (some ⟨d, 0, none⟩), .string ⟨#[]⟩, .int .i64 0]] w fun x w' => x = .returned (.bool true) ∧ Below w.heap.size w w' := by
  have HFm := hide (fun V => frames_e V d)
  have hnil : ∀ (V : World) (b c : Nat), (binOp BinOp.eql 297 (.func (.func 225) #[] #[.pointer (some ⟨b, 0, none⟩), .pointer (some ⟨c, 0, none⟩)]) Value.nilFunc).run Tryz.prog V = .ok (.bool false) V := fun V b c => by kernel_rfl
  refine (callsIn_wide (n := 9)).1 ?_
  refine callsIn_of_wp_marks Tryz.func161 rfl trivial ?_ rfl
  simp only [Tryz.ntmps161, List.size_toArray, List.length_cons, List.length_nil, Nat.reduceAdd, Nat.reduceSub, Array.replicate_succ, Array.replicate_zero, List.push_toArray, List.append_toArray, List.nil_append, List.cons_append]
  gi_wp2_with (refine ⟨trivial, ?_⟩; gi_at_call 198; refine CallsIn.mono (callsIn_wide.2 (HFm.out _)) ?_; rintro e w2 ⟨rfl, rfl⟩)
  have hB0 : Below w.heap.size w (((((w.alloc (.cells #[.pointer (some ⟨d, 0, none⟩), .string ⟨#[]⟩, .int .i64 0] 194)).alloc (.cells #[.bool false] 4)).alloc (.cells #[.bool true] 4)).alloc (.cells #[.pointer (some ⟨d, 0, none⟩), .string ⟨#[]⟩, .int .i64 0] 194)).alloc (.cells #[.int .i64 0] 3)) := below_trans (below_trans (below_trans (below_trans (below_alloc _ _) (below_alloc _ _)) (below_alloc _ _)) (below_alloc _ _)) (below_alloc _ _)
  have bA := Blk.new (w.alloc (.cells #[.pointer (some ⟨d, 0, none⟩), .string ⟨#[]⟩, .int .i64 0] 194)) #[.bool false] 4
  have bB := Blk.new ((w.alloc (.cells #[.pointer (some ⟨d, 0, none⟩), .string ⟨#[]⟩, .int .i64 0] 194)).alloc (.cells #[.bool false] 4)) #[.bool true] 4
  have bD := Blk.new ((((w.alloc (.cells #[.pointer (some ⟨d, 0, none⟩), .string ⟨#[]⟩, .int .i64 0] 194)).alloc (.cells #[.bool false] 4)).alloc (.cells #[.bool true] 4)).alloc (.cells #[.pointer (some ⟨d, 0, none⟩), .string ⟨#[]⟩, .int .i64 0] 194)) #[.int .i64 0] 3
  have bA2 := ((bA.later (below_alloc _ (.cells #[.bool true] 4))).later (below_alloc _ (.cells #[.pointer (some ⟨d, 0, none⟩), .string ⟨#[]⟩, .int .i64 0] 194))).later (below_alloc _ (.cells #[.int .i64 0] 3))
  have bB2 := (bB.later (below_alloc _ (.cells #[.pointer (some ⟨d, 0, none⟩), .string ⟨#[]⟩, .int .i64 0] 194))).later (below_alloc _ (.cells #[.int .i64 0] 3))
  simp only [World.size_alloc] at bA2 bB2 bD
  have hs0 : (((((w.alloc (.cells #[.pointer (some ⟨d, 0, none⟩), .string ⟨#[]⟩, .int .i64 0] 194)).alloc (.cells #[.bool false] 4)).alloc (.cells #[.bool true] 4)).alloc (.cells #[.pointer (some ⟨d, 0, none⟩), .string ⟨#[]⟩, .int .i64 0] 194)).alloc (.cells #[.int .i64 0] 3)).heap.size = w.heap.size + 5 := by simp
  clear bA bB
  generalize (((((w.alloc (.cells #[.pointer (some ⟨d, 0, none⟩), .string ⟨#[]⟩, .int .i64 0] 194)).alloc (.cells #[.bool false] 4)).alloc (.cells #[.bool true] 4)).alloc (.cells #[.pointer (some ⟨d, 0, none⟩), .string ⟨#[]⟩, .int .i64 0] 194)).alloc (.cells #[.int .i64 0] 3)) = W0 at hB0 bA2 bB2 bD hs0 ⊢
  have h0 : WhI w (w.heap.size + 5) [] W0 := ⟨bA2, bB2, hB0, by omega⟩
  refine wpIn_rangeFunc_ownH rfl (by omega) (gf := 225) (lb := #[.pointer (some ⟨w.heap.size + 1 + 1 + 1 + 1, 0, none⟩), .pointer (some ⟨w.heap.size + 1 + 1 + 1, 0, none⟩)]) rfl trivial (enters_of Tryz.func225 (by kernel_rfl) rfl)
    (frames_none _ (w.heap.size + 1 + 1 + 1 + 1) (w.heap.size + 1 + 1 + 1) (fun A B => True) W0 (by omega) bD)
    (fun h h' => trivial) (fun W l o o' hl ho _ _ => trivial) (Below.refl _ _) (fun x => x.elim)
    (WhI w (w.heap.size + 5)) (fun _ _ _ => False) (whI_own w _ _ (by omega)) (fun _ _ _ _ _ hs _ _ => hs) h0
    (fun x a' W => True) (fun x a' s X Y row hs hg hr => trivial) (fun _ _ x => x.elim) (fun _ _ x => x.elim) ?done ?stop
  case done =>
    rintro D ys W hD rfl ⟨h1, h2, hB, hsz⟩ hK0
    have c2 := h2.cell
    have c1 := h1.cell
    have f1 := h1.frozen
    have s1 : Boxed (W.setCell ⟨w.heap.size + 1, 0, none⟩ (.bool true)) (w.heap.size + 1) 4 (.bool true) := h1.set _
    have b1 : Below w.heap.size w (W.setCell ⟨w.heap.size + 1, 0, none⟩ (.bool true)) := hB.trans ((Below.refl _ W).setCell (p := ⟨w.heap.size + 1, 0, none⟩) (by show w.heap.size ≤ w.heap.size + 1; omega) _)
    have k1 : (W.setCell ⟨w.heap.size + 1, 0, none⟩ (.bool true)).heap[D]? = some (.deferred (some [])) := (Below.heap_setCell W ⟨w.heap.size + 1, 0, none⟩ (.bool true) D (by show D ≠ w.heap.size + 1; omega)).trans hK0
    gi_wp2
    generalize W.setCell ⟨w.heap.size + 1, 0, none⟩ (.bool true) = Y at b1 s1 k1 ⊢
    have b2 := b1.trans (belowK_b (w := w) (Nat.le_refl _) Y D _ (.deferred none) (by omega) k1)
    have c9 : (Y.putObj D (.deferred none)).cell? ⟨w.heap.size + 1, 0, none⟩ = some (.bool true) := Boxed.cell (show Boxed (Y.putObj D (.deferred none)) (w.heap.size + 1) 4 (.bool true) from ((grownBy_putObj' Y D (.deferred none)).block _ s1.lt (fun e => by simp at e; omega)).trans s1)
    refine ⟨by simp, .inl ⟨_, _, rfl, run_takeDeferred k1, ?_⟩⟩
    refine ⟨.bool true, ?_, rfl, b2⟩
    simp [results, Tryz.f161, go_sem, c9]
  case stop =>
    rintro D cc pre W _ _ h _
    exact h.elim
end Go.Proofs.YtenfjbcigkolaaaGreat
