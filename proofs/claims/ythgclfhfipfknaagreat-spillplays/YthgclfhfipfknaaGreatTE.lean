/- A disk without files: what it tells; the journal and the log on it. -/
/- A disk without files, read; the journal on it. -/
/- The log on a disk without files. -/
/- The log on a disk without files: opened, its last mark, a checkpoint. -/
import Derived.Test.YthgclfhfipfknaaGreatTA
import Derived.WalkSpells
import Derived.Maps.RangeRun
import Derived.RangeFuncNested
import Derived.RangeFuncBound
import Derived.RangeFuncCalls
import Derived.RangeFuncLeaves
import Derived.RangeFuncWrites
import Derived.Shelf.Abstract
import Derived.Shelf.RegionOpen
import Derived.OwnWalkIn
import Derived.TacticsInMore
import Derived.LoopNIn
import Derived.LoopIn
import Derived.Lib.ItoaWalk
namespace Go.Proofs.YthgclfhfipfknaaGreat
open Go.ChangeShapes Go.WideShapes Go.ChangeAt Go.RowKit Go.Maps
set_option linter.unusedVariables false

/-- The cells of a disk without files that is up. -/
def dkc (mb : Nat) (room : Int) : Array Value := #[.map (some mb), .slice none 0 0, .int .i64 room, .int .i64 0, .int .i64 0, .int .i64 0, .bool false]
structure DE (w : World) (d mb : Nat) (room : Int) : Prop where
  blk : Blk w d (dkc mb room) 145
  mp : w.heap[mb]? = some (.map #[] 0)
theorem DE.later {w w' : World} {d mb : Nat} {room : Int} (h : DE w d mb room) (hb : Below w.heap.size w w') : DE w' d mb room :=
  ⟨h.blk.later hb, (hb.block mb (Array.getElem?_eq_some_iff.1 h.mp).1).trans h.mp⟩
theorem DE.drew {w : World} {d mb : Nat} {room : Int} (h : DE w d mb room) : DE w.drew d mb room := ⟨h.blk, h.mp⟩
theorem DE.c0 {w : World} {d mb : Nat} {room : Int} (h : DE w d mb room) : w.cell? ⟨d, 0, none⟩ = some (.map (some mb)) := h.blk.cell 0
theorem DE.c5 {w : World} {d mb : Nat} {room : Int} (h : DE w d mb room) : w.cell? ⟨d, 5, none⟩ = some (.int .i64 0) := h.blk.cell 5
theorem DE.c6 {w : World} {d mb : Nat} {room : Int} (h : DE w d mb room) : w.cell? ⟨d, 6, none⟩ = some (.bool false) := h.blk.cell 6

theorem ckey (w : World) (nm : ByteArray) (e : Bool) : (Instr.checkKey e 10000 9 (.string nm)).run Tryz.prog w = .ok () w :=
  MapKept.run_checkKey (d := .string) (k := .string nm) Tryz.underlying9 trivial e 9999
theorem find_none (nm : ByteArray) : Instr.findNow .string (.string nm) [] 0 = some none := rfl
theorem look_none (w : World) (mb : Nat) (nm : ByteArray) (hm : w.heap[mb]? = some (.map #[] 0)) :
    (Instr.lookup 142 (.map (some mb)) (.string nm) false).run Tryz.prog w = .ok (.pointer none) w := by
  have hz : (zeroValue 388).run Tryz.prog w = .ok (.pointer none) w := by kernel_rfl
  simp [Instr.lookup, run_underlying Tryz.underlying142, MapKept.run_getObj_map hm, ckey w nm, MapKept.run_findKey (d := .string) Tryz.underlying9 (find_none nm), Result.andThen, hz]

theorem made_e (w : World) (d mb : Nat) (room : Int) (h : DE w d mb room) : Calls Tryz.prog 131 #[.pointer (some ⟨d, 0, none⟩)] w fun e w' => e = .returned (.bool true) ∧ w = w' := by
  have k1 := fun (w : World) (r : Option Nat) => run_neq_map_nil (P := Tryz.prog) w 142 9 388 r Tryz.underlying142
  have c0 := h.c0
  clear h
  go_enter Tryz.func131, Tryz.ntmps131
  go_wp2
  go_ret
  exact ⟨rfl, rfl⟩
theorem refusal_e (w : World) (d mb : Nat) (room : Int) (h : DE w d mb room) : Calls Tryz.prog 252 #[.pointer (some ⟨d, 0, none⟩)] w fun e w' => e = .returned (.int .i64 0) ∧ w = w' := by
  have HM := hide (made_e w d mb room h)
  have c6 := h.c6
  clear h
  go_enter Tryz.func252, Tryz.ntmps252
  go_wp2_with (go_at_call 131; (with_reducible refine Calls.mono HM.out ?_); rintro e w0 ⟨rfl, rfl⟩)
  go_ret
  exact ⟨rfl, rfl⟩
theorem down_e (w : World) (d mb : Nat) (room : Int) (h : DE w d mb room) : Calls Tryz.prog 366 #[.pointer (some ⟨d, 0, none⟩)] w fun e w' => e = .returned (.bool false) ∧ w = w' := by
  have HM := hide (made_e w d mb room h)
  have c6 := h.c6
  clear h
  go_enter Tryz.func366, Tryz.ntmps366
  go_wp2_with (go_at_call 131; (with_reducible refine Calls.mono HM.out ?_); rintro e w0 ⟨rfl, rfl⟩)
  go_ret
  exact ⟨rfl, rfl⟩
theorem starts_e (w : World) (d mb : Nat) (room : Int) (h : DE w d mb room) : Calls Tryz.prog 62 #[.pointer (some ⟨d, 0, none⟩)] w fun e w' => e = .returned (.int .i64 0) ∧ w = w' := by
  have HM := hide (made_e w d mb room h)
  have c5 := h.c5
  clear h
  go_enter Tryz.func62, Tryz.ntmps62
  go_wp2_with (go_at_call 131; (with_reducible refine Calls.mono HM.out ?_); rintro e w0 ⟨rfl, rfl⟩)
  go_ret
  exact ⟨rfl, rfl⟩
theorem seen_e (w : World) (d mb : Nat) (room : Int) (h : DE w d mb room) (nm : ByteArray) : Calls Tryz.prog 253 #[.pointer (some ⟨d, 0, none⟩), .string nm] w fun e w' => e = .returned (.pointer (some ⟨w.heap.size, 0, none⟩)) ∧ w' = w.alloc (.cells #[.slice none 0 0] 392) := by
  have c0 := h.c0
  have hl := look_none w mb nm h.mp
  clear h
  go_enter Tryz.func253, Tryz.ntmps253
  go_wp2
  go_ret
  exact ⟨rfl, rfl⟩
theorem size_e (w : World) (q : Nat) (hc : w.cell? ⟨q, 0, none⟩ = some (.slice none 0 0)) : Calls Tryz.prog 296 #[.pointer (some ⟨q, 0, none⟩)] w fun e w' => e = .returned (.int .i64 0) ∧ w = w' := by
  go_enter Tryz.func296, Tryz.ntmps296
  go_wp2
  go_ret
  exact ⟨rfl, rfl⟩
end Go.Proofs.YthgclfhfipfknaaGreat

namespace Go.Proofs.YthgclfhfipfknaaGreat
open Go.ChangeShapes Go.WideShapes Go.ChangeAt Go.RowKit Go.Maps
set_option linter.unusedVariables false

theorem conv_nil (V : World) : (convert 88 9 (.slice none 0 0)).run Tryz.prog V = .ok (.string ⟨#[]⟩) V := by kernel_rfl
theorem slice_nil (V : World) : (Instr.slice 88 (.slice none 0 0) (some (.int .i64 0)) (some (.int .i64 0)) none).run Tryz.prog V = .ok (.slice none 0 0) V := by kernel_rfl
set_option maxRecDepth 20000 in
theorem read_e (w : World) (q : Nat) (hc : w.cell? ⟨q, 0, none⟩ = some (.slice none 0 0)) (at_ n : Int) (h : (at_ = 0 ∨ at_ = 64) ∧ (n = 0 ∨ n = 64)) : Calls Tryz.prog 254 #[.pointer (some ⟨q, 0, none⟩), .int .i64 at_, .int .i64 n] w fun e w' => e = .returned (.string ⟨#[]⟩) ∧ w = w' := by
  have HS := hide (size_e w q hc)
  have hcv := conv_nil
  have hsl := slice_nil
  obtain ⟨rfl | rfl, rfl | rfl⟩ := h
  all_goals
    go_enter Tryz.func254, Tryz.ntmps254
    go_wp2_with (go_at_call 296; (with_reducible refine Calls.mono HS.out ?_); rintro e w0 ⟨rfl, rfl⟩)
    go_ret
    exact ⟨rfl, rfl⟩
theorem Read_e (w : World) (d mb : Nat) (room : Int) (h : DE w d mb room) (nm : ByteArray) (at_ n : Int) (hn : (at_ = 0 ∨ at_ = 64) ∧ (n = 0 ∨ n = 64)) : Calls Tryz.prog 200 #[.pointer (some ⟨d, 0, none⟩), .string nm, .int .i64 at_, .int .i64 n] w fun e w' => e = .returned (.tuple #[.string ⟨#[]⟩, .int .i64 0]) ∧ Below w.heap.size w w' := by
  have HR := hide (refusal_e w d mb room h)
  have HS := hide (seen_e w d mb room h nm)
  have HB := hide (below_alloc w (.cells #[.slice none 0 0] 392))
  have HQ := hide (read_e (w.alloc (.cells #[.slice none 0 0] 392)) w.heap.size ((Blk.new w #[.slice none 0 0] 392).cell 0) at_ n hn)
  have l0 : ¬ at_ < 0 := by omega
  have l1 : ¬ n < 0 := by omega
  clear h hn
  go_enter Tryz.func200, Tryz.ntmps200
  go_wp2_with (first
    | (go_at_call 252; (with_reducible refine Calls.mono HR.out ?_); rintro e w0 ⟨rfl, rfl⟩)
    | (go_at_call 253; (with_reducible refine Calls.mono HS.out ?_); rintro e w1 ⟨rfl, rfl⟩)
    | (go_at_call 254; (with_reducible refine Calls.mono HQ.out ?_); rintro e w2 ⟨rfl, rfl⟩))
  go_ret2
  exact ⟨rfl, HB.out⟩
theorem Len_e (w : World) (d mb : Nat) (room : Int) (h : DE w d mb room) (nm : ByteArray) : Calls Tryz.prog 265 #[.pointer (some ⟨d, 0, none⟩), .string nm] w fun e w' => e = .returned (.int .i64 0) ∧ Below w.heap.size w w' := by
  have HR := hide (refusal_e w d mb room h)
  have HS := hide (seen_e w d mb room h nm)
  have HB := hide (below_alloc w (.cells #[.slice none 0 0] 392))
  have HQ := hide (size_e (w.alloc (.cells #[.slice none 0 0] 392)) w.heap.size ((Blk.new w #[.slice none 0 0] 392).cell 0))
  clear h
  go_enter Tryz.func265, Tryz.ntmps265
  go_wp2_with (first
    | (go_at_call 252; (with_reducible refine Calls.mono HR.out ?_); rintro e w0 ⟨rfl, rfl⟩)
    | (go_at_call 253; (with_reducible refine Calls.mono HS.out ?_); rintro e w1 ⟨rfl, rfl⟩)
    | (go_at_call 296; (with_reducible refine Calls.mono HQ.out ?_); rintro e w2 ⟨rfl, rfl⟩))
  go_ret
  exact ⟨rfl, HB.out⟩
theorem jcount_e (w : World) (d mb : Nat) (room : Int) (h : DE w d mb room) : Calls Tryz.prog 209 #[.pointer (some ⟨d, 0, none⟩)] w fun e w' => e = .returned (.int .i64 0) ∧ Below w.heap.size w w' := by
  have HL := hide (fun nm => Len_e w d mb room h nm)
  clear h
  go_enter Tryz.func209, Tryz.ntmps209
  go_wp2_with (go_at_call 265; (with_reducible refine Calls.mono (HL.out _) ?_); rintro e w0 ⟨rfl, hb⟩; have HB := hide hb; clear hb)
  go_ret
  exact ⟨rfl, HB.out⟩
theorem jrefusal_e (w : World) (d mb : Nat) (room : Int) (h : DE w d mb room) : Calls Tryz.prog 127 #[.agg #[.pointer (some ⟨d, 0, none⟩)]] w fun e w' => e = .returned (.int .i64 0) ∧ Below w.heap.size w w' := by
  have HD := hide (fun nm => Read_e _ d mb room (h.later (below_alloc w (.cells #[.pointer (some ⟨d, 0, none⟩)] 232))) nm 0 0 ⟨.inl rfl, .inl rfl⟩)
  have HB := hide (below_alloc w (.cells #[.pointer (some ⟨d, 0, none⟩)] 232))
  clear h
  go_enter Tryz.func127, Tryz.ntmps127
  go_wp2_with (go_at_call 200; (with_reducible refine Calls.mono (HD.out _) ?_); rintro e w0 ⟨rfl, hb⟩; have HB1 := hide (below_trans HB.out hb); clear hb)
  go_ret
  exact ⟨rfl, HB1.out⟩
def wz : Array Value := #[.int .u32 0, .int .u32 0, .int .u32 0, .int .u32 0]
theorem infoW : (Tryz.prog.info? 295).map (·.size) = some 4 := by kernel_rfl
theorem uW : ∃ d, Tryz.prog.underlying 295 = some d ∧ d.isRow = true := ⟨_, Tryz.underlying295, rfl⟩
theorem wz_one : wz.all (·.oneCell') = true := all_oneCell_toArray (cs := [Value.int .u32 0, .int .u32 0, .int .u32 0, .int .u32 0]) (by intro v hv; simp at hv; rcases hv with rfl | rfl | rfl | rfl <;> rfl)
set_option maxRecDepth 20000 in
set_option maxHeartbeats 2000000 in
theorem head_e (w : World) (d mb : Nat) (room : Int) (h : DE w d mb room) : Calls Tryz.prog 201 #[.agg #[.pointer (some ⟨d, 0, none⟩)]] w fun e w' => e = .returned (.agg wz) ∧ Below w.heap.size w w' := by
  have HB : Hid (Below w.heap.size w ((w.alloc (.cells #[.pointer (some ⟨d, 0, none⟩)] 232)).alloc (.cells wz 295))) := below_trans (below_alloc _ _) (below_alloc _ _)
  have HD := hide (fun nm => Read_e _ d mb room (h.later HB.out) nm 0 64 ⟨.inl rfl, .inr rfl⟩)
  have HZ : Hid (Blk ((w.alloc (.cells #[.pointer (some ⟨d, 0, none⟩)] 232)).alloc (.cells wz 295)) (w.heap.size + 1) wz 295) := by
    have := Blk.new (w.alloc (.cells #[.pointer (some ⟨d, 0, none⟩)] 232)) wz 295
    rwa [show (w.alloc (.cells #[.pointer (some ⟨d, 0, none⟩)] 232)).heap.size = w.heap.size + 1 by simp] at this
  have HI := hide infoW
  clear h
  go_enter Tryz.func201, Tryz.ntmps201
  go_wp2_with (first
    | (go_at_call 200; (with_reducible refine Calls.mono (HD.out _) ?_); rintro e w0 ⟨rfl, hb⟩; have HB1 := hide (below_trans HB.out hb); have HZ1 := hide (HZ.out.later hb); clear hb)
    | ((with_reducible refine atSt 295 ?_); refine wp_storeB (c := wz) HI.out (by rfl) wz_one HZ1.out _ _ (by rfl) (by rfl) (by rfl) (by rfl) ?_; intro W5 hb5 ho5; have HB5 := hide hb5; have HG5 := hide (below_only1 HB1.out ho5 (by omega)); clear hb5 ho5))
  refine ret_blk (c := wz) HI.out uW (by rfl) (by rfl) HB5.out ?_
  exact ⟨rfl, HG5.out⟩
set_option maxRecDepth 20000 in
theorem hot_e (w : World) (d mb : Nat) (room : Int) (h : DE w d mb room) : Calls Tryz.prog 128 #[.pointer (some ⟨d, 0, none⟩)] w fun e w' => e = .returned (.bool false) ∧ Below w.heap.size w w' := by
  have HD := hide (head_e w d mb room h)
  have hx : ∀ V : World, (Instr.index 295 (.agg wz) (.int .i64 0)).run Tryz.prog V = .ok (.int .u32 0) V := fun V => by kernel_rfl
  clear h
  go_enter Tryz.func128, Tryz.ntmps128
  go_wp2_with (go_at_call 201; (with_reducible refine Calls.mono HD.out ?_); rintro e w0 ⟨rfl, hb⟩; have HB := hide hb; clear hb)
  go_ret
  exact ⟨rfl, HB.out⟩
theorem recover_e (w : World) (d mb : Nat) (room : Int) (h : DE w d mb room) : Calls Tryz.prog 60 #[.pointer (some ⟨d, 0, none⟩)] w fun e w' => e = .returned (.tuple #[.bool false, .int .i64 0]) ∧ Below w.heap.size w w' := by
  have HR := hide (fun V (hb : Below w.heap.size w V) => jrefusal_e V d mb room (h.later hb))
  have HH := hide (fun V (hb : Below w.heap.size w V) => hot_e V d mb room (h.later hb))
  have HB := hide (below_alloc w (.cells #[.pointer (some ⟨d, 0, none⟩)] 232))
  clear h
  go_enter Tryz.func60, Tryz.ntmps60
  go_wp2_with (first
    | (go_at_call 127; (with_reducible refine Calls.mono (HR.out _ HB.out) ?_); rintro e w0 ⟨rfl, hb⟩; have HB1 := hide (below_trans HB.out hb); clear hb)
    | (go_at_call 128; (with_reducible refine Calls.mono (HH.out _ HB1.out) ?_); rintro e w1 ⟨rfl, hb⟩; have HB2 := hide (below_trans HB1.out hb); clear hb))
  go_ret2
  exact ⟨rfl, HB2.out⟩
end Go.Proofs.YthgclfhfipfknaaGreat

namespace Go.Proofs.YthgclfhfipfknaaGreat
open Go.ChangeShapes Go.WideShapes Go.ChangeAt Go.RowKit Go.Maps Go.Shelf
set_option linter.unusedVariables false
attribute [local go_sem] Oper.semAt_some

/-- The log without frames. -/
def lg0 (d : Nat) : Array Value := #[.pointer (some ⟨d, 0, none⟩), .string ⟨#[]⟩, .int .i64 0]
theorem infoG : (Tryz.prog.info? 235).map (·.size) = some 3 := by kernel_rfl
theorem uG : ∃ d, Tryz.prog.underlying 235 = some d ∧ d.isRow = true := ⟨_, Tryz.underlying235, rfl⟩
theorem lg_one {a : Option Addr} {s : ByteArray} {k : Int} : (#[Value.pointer a, .string s, .int .i64 k]).all (·.oneCell') = true := all_oneCell_toArray (cs := [Value.pointer a, .string s, .int .i64 k]) (by intro v hv; simp at hv; rcases hv with rfl | rfl | rfl <;> rfl)
theorem frames_e (w : World) (d : Nat) : Calls Tryz.prog 263 #[.agg #[.pointer (some ⟨d, 0, none⟩), .string ⟨#[]⟩, .int .i64 0], .int .i64 0] w fun x w' => x = .returned (.func (.func 302) #[] #[.pointer (some ⟨w.heap.size + 1, 0, none⟩), .pointer (some ⟨w.heap.size, 0, none⟩)]) ∧ w' = (w.alloc (.cells #[.pointer (some ⟨d, 0, none⟩), .string ⟨#[]⟩, .int .i64 0] 235)).alloc (.cells #[.int .i64 0] 3) := by
  go_enter Tryz.func263, Tryz.ntmps263
  go_wp2
  go_ret
  exact ⟨rfl, rfl⟩
theorem belowK_b {w : World} {B : Nat} (hB : B ≤ w.heap.size) (W : World) (D : Nat) (o o' : Obj) (hD : B ≤ D) (h : W.heap[D]? = some o) : Below B W (W.putObj D o') :=
  ⟨rfl, rfl, rfl, (grownBy_putObj' W D o').size, fun k hk => (grownBy_putObj' W D o').block k (by have := (Array.getElem?_eq_some_iff.1 h).1; omega) (fun e => by simp at e; omega)⟩
/-- The frames of a log without frames: none. -/
theorem frames_none (n bm bl : Nat) (Kp : World → World → Prop) (w : World) (hw : bm < w.heap.size) (hbm : Blk w bm #[.int .i64 0] 3) :
    SeqStopsK Fence.wide n Tryz.prog 302 #[.pointer (some ⟨bm, 0, none⟩), .pointer (some ⟨bl, 0, none⟩)] (fun x : Empty => x.elim) Kp (fun ys => ys = []) (fun _ => False) 0 w := fun lp J Jx W hW hJ _ hY h0 => by
  have cm : W.cell? ⟨bm, 0, none⟩ = some (.int .i64 0) := (hbm.later hW).cell 0
  refine callsIn_of_wp Tryz.func302 rfl trivial ?_ rfl
  simp only [Tryz.ntmps302, List.size_toArray, List.length_cons, List.length_nil, Nat.reduceAdd, Nat.reduceSub, Array.replicate_succ, Array.replicate_zero, List.push_toArray, List.append_toArray, List.nil_append, List.cons_append]
  gi_wp2
  refine wpIn_loop_rounds 1 ?_
  rw [roundsIn_succ]
  gi_wp2
  go_end0
  exact ⟨⟨_, rfl⟩, .inl ⟨[], rfl, h0⟩⟩
/-- Between two rounds. -/
def WhI (w : World) (sz : Nat) (pre : List Empty) (W : World) : Prop := Boxed W (w.heap.size + 1) 4 (.bool false) ∧ Boxed W (w.heap.size + 1 + 1) 4 (.bool true) ∧ Below w.heap.size w W ∧ sz ≤ W.heap.size
theorem whI_own (w : World) (sz B : Nat) (h : w.heap.size ≤ B) : OwnFrom B (WhI w sz) :=
  OwnFrom.and (Own.from (boxed_own _ _ (fun _ : List Empty => .bool false)) _) (OwnFrom.and (Own.from (boxed_own _ _ (fun pre : List Empty => .bool true)) _) (OwnFrom.and (ownFrom_below (Nat.le_refl _) h) (fun s X Y row hs hg _ => Nat.le_trans hs hg.size)))
set_option maxRecDepth 100000 in
set_option maxHeartbeats 4000000 in
theorem whole_e (w : World) (d : Nat) : Calls Tryz.prog 208 #[.agg #[.pointer (some ⟨d, 0, none⟩), .string ⟨#[]⟩, .int .i64 0]] w fun x w' => x = .returned (.bool true) ∧ Below w.heap.size w w' := by
  have HFm := hide (fun V => frames_e V d)
  have hnil : ∀ (V : World) (b c : Nat), (binOp BinOp.eql 363 (.func (.func 302) #[] #[.pointer (some ⟨b, 0, none⟩), .pointer (some ⟨c, 0, none⟩)]) Value.nilFunc).run Tryz.prog V = .ok (.bool false) V := fun V b c => by kernel_rfl
  refine (callsIn_wide (n := 9)).1 ?_
  refine callsIn_of_wp_marks Tryz.func208 rfl trivial ?_ rfl
  simp only [Tryz.ntmps208, List.size_toArray, List.length_cons, List.length_nil, Nat.reduceAdd, Nat.reduceSub, Array.replicate_succ, Array.replicate_zero, List.push_toArray, List.append_toArray, List.nil_append, List.cons_append]
  gi_wp2_with (refine ⟨trivial, ?_⟩; gi_at_call 263; refine CallsIn.mono (callsIn_wide.2 (HFm.out _)) ?_; rintro e w2 ⟨rfl, rfl⟩)
  have hB0 : Below w.heap.size w (((((w.alloc (.cells #[.pointer (some ⟨d, 0, none⟩), .string ⟨#[]⟩, .int .i64 0] 235)).alloc (.cells #[.bool false] 4)).alloc (.cells #[.bool true] 4)).alloc (.cells #[.pointer (some ⟨d, 0, none⟩), .string ⟨#[]⟩, .int .i64 0] 235)).alloc (.cells #[.int .i64 0] 3)) := below_trans (below_trans (below_trans (below_trans (below_alloc _ _) (below_alloc _ _)) (below_alloc _ _)) (below_alloc _ _)) (below_alloc _ _)
  have bA := Blk.new (w.alloc (.cells #[.pointer (some ⟨d, 0, none⟩), .string ⟨#[]⟩, .int .i64 0] 235)) #[.bool false] 4
  have bB := Blk.new ((w.alloc (.cells #[.pointer (some ⟨d, 0, none⟩), .string ⟨#[]⟩, .int .i64 0] 235)).alloc (.cells #[.bool false] 4)) #[.bool true] 4
  have bD := Blk.new ((((w.alloc (.cells #[.pointer (some ⟨d, 0, none⟩), .string ⟨#[]⟩, .int .i64 0] 235)).alloc (.cells #[.bool false] 4)).alloc (.cells #[.bool true] 4)).alloc (.cells #[.pointer (some ⟨d, 0, none⟩), .string ⟨#[]⟩, .int .i64 0] 235)) #[.int .i64 0] 3
  have bA2 := ((bA.later (below_alloc _ (.cells #[.bool true] 4))).later (below_alloc _ (.cells #[.pointer (some ⟨d, 0, none⟩), .string ⟨#[]⟩, .int .i64 0] 235))).later (below_alloc _ (.cells #[.int .i64 0] 3))
  have bB2 := (bB.later (below_alloc _ (.cells #[.pointer (some ⟨d, 0, none⟩), .string ⟨#[]⟩, .int .i64 0] 235))).later (below_alloc _ (.cells #[.int .i64 0] 3))
  simp only [World.size_alloc] at bA2 bB2 bD
  have hs0 : (((((w.alloc (.cells #[.pointer (some ⟨d, 0, none⟩), .string ⟨#[]⟩, .int .i64 0] 235)).alloc (.cells #[.bool false] 4)).alloc (.cells #[.bool true] 4)).alloc (.cells #[.pointer (some ⟨d, 0, none⟩), .string ⟨#[]⟩, .int .i64 0] 235)).alloc (.cells #[.int .i64 0] 3)).heap.size = w.heap.size + 5 := by simp
  clear bA bB
  generalize (((((w.alloc (.cells #[.pointer (some ⟨d, 0, none⟩), .string ⟨#[]⟩, .int .i64 0] 235)).alloc (.cells #[.bool false] 4)).alloc (.cells #[.bool true] 4)).alloc (.cells #[.pointer (some ⟨d, 0, none⟩), .string ⟨#[]⟩, .int .i64 0] 235)).alloc (.cells #[.int .i64 0] 3)) = W0 at hB0 bA2 bB2 bD hs0 ⊢
  have h0 : WhI w (w.heap.size + 5) [] W0 := ⟨bA2, bB2, hB0, by omega⟩
  refine wpIn_rangeFunc_ownH rfl (by omega) (gf := 302) (lb := #[.pointer (some ⟨w.heap.size + 1 + 1 + 1 + 1, 0, none⟩), .pointer (some ⟨w.heap.size + 1 + 1 + 1, 0, none⟩)]) rfl trivial (enters_of Tryz.func302 (by kernel_rfl) rfl)
    (frames_none _ (w.heap.size + 1 + 1 + 1 + 1) (w.heap.size + 1 + 1 + 1) (fun A B => True) W0 (by omega) bD)
    (fun h h' => trivial) (fun W l o o' hl ho _ _ => trivial) (Below.refl _ _) (fun x => x.elim)
    (WhI w (w.heap.size + 5)) (fun _ _ _ => False) (whI_own w _ _ (by omega)) (fun _ _ _ _ _ hs _ _ => hs) h0
    (fun x a' W => True) (fun x a' s X Y row hs hg hr => trivial) (fun _ _ x => x.elim) (fun _ _ x => x.elim) ?done ?stop
  case done =>
    rintro D ys W hD rfl ⟨h1, h2, hB, hsz⟩ hK0
    have c2 := h2.cell
    have c1 := h1.cell
    have f1 := h1.frozen
    have s1 : Boxed (W.setCell ⟨w.heap.size + 1, 0, none⟩ (.bool true)) (w.heap.size + 1) 4 (.bool true) := h1.set _
    have b1 : Below w.heap.size w (W.setCell ⟨w.heap.size + 1, 0, none⟩ (.bool true)) := hB.trans ((Below.refl _ W).setCell (p := ⟨w.heap.size + 1, 0, none⟩) (by show w.heap.size ≤ w.heap.size + 1; omega) _)
    have k1 : (W.setCell ⟨w.heap.size + 1, 0, none⟩ (.bool true)).heap[D]? = some (.deferred (some [])) := (Below.heap_setCell W ⟨w.heap.size + 1, 0, none⟩ (.bool true) D (by show D ≠ w.heap.size + 1; omega)).trans hK0
    gi_wp2
    generalize W.setCell ⟨w.heap.size + 1, 0, none⟩ (.bool true) = Y at b1 s1 k1 ⊢
    have b2 := b1.trans (belowK_b (w := w) (Nat.le_refl _) Y D _ (.deferred none) (by omega) k1)
    have c9 : (Y.putObj D (.deferred none)).cell? ⟨w.heap.size + 1, 0, none⟩ = some (.bool true) := Boxed.cell (show Boxed (Y.putObj D (.deferred none)) (w.heap.size + 1) 4 (.bool true) from ((grownBy_putObj' Y D (.deferred none)).block _ s1.lt (fun e => by simp at e; omega)).trans s1)
    refine ⟨by simp, .inl ⟨_, _, rfl, run_takeDeferred k1, ?_⟩⟩
    refine ⟨.bool true, ?_, rfl, b2⟩
    simp [results, Tryz.f208, go_sem, c9]
  case stop =>
    rintro D cc pre W _ _ h _
    exact h.elim
end Go.Proofs.YthgclfhfipfknaaGreat

namespace Go.Proofs.YthgclfhfipfknaaGreat
open Go.ChangeShapes Go.WideShapes Go.ChangeAt Go.RowKit Go.Maps
set_option linter.unusedVariables false

set_option maxRecDepth 20000 in
set_option maxHeartbeats 2000000 in
theorem readHead_e (w : World) (d mb : Nat) (room : Int) (h : DE w d mb room) : Calls Tryz.prog 206 #[.pointer (some ⟨d, 0, none⟩)] w fun e w' => e = .returned (.tuple #[.agg wz, .int .i64 0]) ∧ Below w.heap.size w w' := by
  have HB := hide (below_alloc w (.cells wz 295))
  have HD := hide (fun nm => Read_e _ d mb room (h.later HB.out) nm 0 64 ⟨.inl rfl, .inr rfl⟩)
  have HZ := hide (Blk.new w wz 295)
  have HI := hide infoW
  clear h
  go_enter Tryz.func206, Tryz.ntmps206
  go_wp2_with (first
    | (go_at_call 200; (with_reducible refine Calls.mono (HD.out _) ?_); rintro e w0 ⟨rfl, hb⟩; have HB1 := hide (below_trans HB.out hb); have HZ1 := hide (HZ.out.later hb); clear hb)
    | ((with_reducible refine atSt 295 ?_); refine wp_storeB (c := wz) HI.out (by rfl) wz_one HZ1.out _ _ (by rfl) (by rfl) (by rfl) (by rfl) ?_; intro W5 hb5 ho5; have HB5 := hide hb5; have HG5 := hide (below_only1 HB1.out ho5 (Nat.le_refl _)); clear hb5 ho5))
  refine ret_blk2 (v := .int .i64 0) (c := wz) HI.out uW (by rfl) (by rfl) (by rfl) HB5.out ?_
  exact ⟨rfl, HG5.out⟩
theorem frameStart_e (w : World) : Calls Tryz.prog 207 #[.int .i64 1] w fun e w' => e = .returned (.int .i64 64) ∧ w = w' := by
  go_enter Tryz.func207, Tryz.ntmps207
  go_wp2
  go_ret
  exact ⟨rfl, rfl⟩
set_option maxHeartbeats 4000000 in
set_option maxRecDepth 20000 in
theorem open_e (w : World) (d mb : Nat) (room : Int) (h : DE w d mb room) :
    Calls Tryz.prog 130 #[.pointer (some ⟨d, 0, none⟩)] w fun e w' => e = .returned (.tuple #[.agg #[.pointer (some ⟨d, 0, none⟩), .string ⟨#[]⟩, .int .i64 0], .int .i64 0]) ∧ Below w.heap.size w w' := by
  have HRh := hide (fun V (hg : Below w.heap.size w V) => readHead_e V d mb room (h.later hg))
  have HRt := hide (fun nm V (hg : Below w.heap.size w V) => Read_e V d mb room (h.later hg) nm 64 0 ⟨.inr rfl, .inl rfl⟩)
  have HWh := hide (fun V => whole_e V d)
  have HFs := hide frameStart_e
  have HI4 := hide infoW
  clear h
  go_enter Tryz.func130, Tryz.ntmps130
  go_upto_region 1 with fail
  go_name_world W0 hW0
  have HG0 : Hid (Below w.heap.size w W0) := by show Below _ _ W0; rw [← hW0]; exact below_alloc _ _
  have HS0 : Hid (Blk W0 w.heap.size #[.pointer none, .string ⟨#[]⟩, .int .i64 0] 235) := by show Blk _ _ _ _; rw [← hW0]; exact Blk.new _ _ _
  clear hW0
  have HI93 := hide infoG
  go_upto_region 4 with (first
    | (go_at_call 206; (with_reducible refine Calls.mono (HRh.out _ HG0.out) ?_); rintro e w1 ⟨rfl, hg⟩; have HG1 := hide (below_trans HG0.out hg); have HS1 := hide (HS0.out.later hg); have HN1 := hide (Blk.new w1 wz 295); clear hg)
    | ((with_reducible refine atSt 295 ?_); refine wp_storeB (c := wz) HI4.out (by rfl) wz_one HN1.out _ _ (by rfl) (by rfl) (by rfl) (by rfl) ?_; intro W2 hb2 ho2; have HB2 := hide hb2; have HG2 := hide (below_only1 (below_trans HG1.out (below_alloc _ _)) ho2 HG1.out.size); have HS2 := hide ((HS1.out.later (below_alloc _ _)).only ho2 (by have := HS1.out.lt; simp; omega)); clear hb2 ho2))
  have d0 : W2.cell? ⟨w1.heap.size, 0, none⟩ = some (Value.int .u32 0) := HB2.out.cell 0
  have d1 : W2.cell? ⟨w1.heap.size, 1, none⟩ = some (Value.int .u32 0) := HB2.out.cell 1
  have d2 : W2.cell? ⟨w1.heap.size, 2, none⟩ = some (Value.int .u32 0) := HB2.out.cell 2
  have d3 : W2.cell? ⟨w1.heap.size, 3, none⟩ = some (Value.int .u32 0) := HB2.out.cell 3
  have HN2 := hide (Blk.new W2 #[.pointer none, .string ⟨#[]⟩, .int .i64 0] 235)
  go_upto_region 7 with (first
    | ((with_reducible refine atSt 235 ?_); refine wp_storeB (c := #[.pointer (some ⟨d, 0, none⟩), .string ⟨#[]⟩, .int .i64 0]) HI93.out (by rfl) lg_one HN2.out _ _ (by rfl) (by rfl) (by rfl) (by rfl) ?_; intro W3 hb3 ho3; have HB3 := hide hb3; have HG3 := hide (below_only1 (below_trans HG2.out (below_alloc _ _)) ho3 HG2.out.size); have HS3 := hide ((HS2.out.later (below_alloc _ _)).only ho3 (by have := HS2.out.lt; simp; omega)); clear hb3 ho3))
  simp only [Act.put]
  clear d0 d1 d2 d3
  have HLt : Hid (w.heap.size < W2.heap.size) := HS2.out.lt
  have HB3d : Hid (Blk W3.drew W2.heap.size #[.pointer (some ⟨d, 0, none⟩), .string ⟨#[]⟩, .int .i64 0] 235) := HB3.out
  have HG3d : Hid (Below w.heap.size w W3.drew) := below_trans HG3.out (below_drew _)
  have HS0c : Hid (W3.drew.cell? ⟨W2.heap.size, 2, none⟩ = some (Value.int .i64 0)) := HB3d.out.cell 2
  go_region_held3 (fun V => V.cell? ⟨W2.heap.size, 2, none⟩ = some (Value.int .i64 0)) (first | with_reducible exact HS0c.out | with_reducible exact HS4c.out | with_reducible exact HS5c.out) (first
    | (go_at_call 207; (with_reducible refine Calls.mono (HFs.out _) ?_); rintro e w4 ⟨rfl, rfl⟩)
    | (go_at_call 200; (with_reducible refine Calls.mono (HRt.out _ _ HG3d.out) ?_); rintro e W4 ⟨rfl, hg⟩; have HB4 := hide (HB3d.out.later hg); have HG4 := hide (below_trans HG3d.out hg); have HS4 := hide (HS3.out.later (below_trans (below_drew _) hg)); have HS4c := hide ((HB4.out.cell 2).trans (show _ = some (Value.int .i64 0) from rfl)); have HB5 : Hid (Blk (W4.setCell ⟨W2.heap.size, 1, none⟩ (.string ⟨#[]⟩)) W2.heap.size #[.pointer (some ⟨d, 0, none⟩), .string ⟨#[]⟩, .int .i64 0] 235) := HB4.out.set 1 (.string ⟨#[]⟩); have HS5c := hide ((HB5.out.cell 2).trans (show _ = some (Value.int .i64 0) from rfl)); have q1 := (HB4.out.cell 1).trans (show _ = some (Value.string ⟨#[]⟩) from rfl); have f1 := HB4.out.frozen 1; clear hg))
  all_goals
    have HG5 := hide (below_only1 HG4.out (Only.setCell W4 ⟨W2.heap.size, 1, none⟩ (.string ⟨#[]⟩)) (by have := HLt.out; show w.heap.size ≤ W2.heap.size; omega))
    have HS5 := hide (HS4.out.only (Only.setCell W4 ⟨W2.heap.size, 1, none⟩ (.string ⟨#[]⟩)) (by have := HLt.out; simp; omega))
    clear q1 f1
    generalize W4.setCell ⟨W2.heap.size, 1, none⟩ (.string ⟨#[]⟩) = W5 at HB5 HG5 HS5 ⊢
    go_wp2_with (first
      | ((with_reducible refine atLd 235 ?_); refine wp_loadB (c := #[.pointer (some ⟨d, 0, none⟩), .string ⟨#[]⟩, .int .i64 0]) HI93.out uG HB5.out _ (by rfl) (by rfl) (by rfl) ?_)
      | ((with_reducible refine atLd 235 ?_); refine wp_loadB (c := #[.pointer (some ⟨d, 0, none⟩), .string ⟨#[]⟩, .int .i64 0]) HI93.out uG HB6.out _ (by rfl) (by rfl) (by rfl) ?_)
      | (go_at_call 208; (with_reducible refine Calls.mono (HWh.out _) ?_); rintro e W6 ⟨rfl, hb⟩; have HB6 := hide (HB5.out.later hb); have HG6 := hide (below_trans HG5.out hb); have HS6 := hide (HS5.out.later hb); clear hb)
      | ((with_reducible refine atSt 235 ?_); refine wp_storeB (c := #[.pointer (some ⟨d, 0, none⟩), .string ⟨#[]⟩, .int .i64 0]) HI93.out (by rfl) lg_one HS6.out _ _ (by rfl) (by rfl) (by rfl) (by rfl) ?_; intro W7 hb7 ho7; have HB7 := hide hb7; have HG7 := hide (below_only1 HG6.out ho7 (by omega)); clear hb7 ho7))
    refine ret_blk2 (v := .int .i64 0) (c := #[.pointer (some ⟨d, 0, none⟩), .string ⟨#[]⟩, .int .i64 0]) HI93.out uG (by rfl) (by rfl) (by rfl) HB7.out ?_
    exact ⟨rfl, HG7.out⟩
set_option maxRecDepth 20000 in
theorem mark_e (w : World) (d mb : Nat) (room : Int) (h : DE w d mb room) : Calls Tryz.prog 61 #[.pointer (some ⟨d, 0, none⟩)] w fun e w' => e = .returned (.tuple #[.int .i64 0, .int .i64 0]) ∧ Below w.heap.size w w' := by
  have HO := hide (open_e w d mb room h)
  have HZ := hide (fun V => Blk.new V #[.pointer none, .string ⟨#[]⟩, .int .i64 0] 235)
  have HI93 := hide infoG
  clear h
  go_enter Tryz.func61, Tryz.ntmps61
  go_wp2_with (first
    | (go_at_call 130; (with_reducible refine Calls.mono HO.out ?_); rintro e w1 ⟨rfl, hg⟩; have HG1 := hide hg; clear hg)
    | ((with_reducible refine atSt 235 ?_); refine wp_storeB (c := #[.pointer (some ⟨d, 0, none⟩), .string ⟨#[]⟩, .int .i64 0]) HI93.out (by rfl) lg_one (HZ.out _) _ _ (by rfl) (by rfl) (by rfl) (by rfl) ?_; intro W6 hb6 ho6; have c2 := (Blk.cell hb6 2).trans (show _ = some (Value.int .i64 0) from rfl); have HG6 := hide (below_only1 (below_trans HG1.out (below_alloc _ _)) ho6 HG1.out.size); clear hb6 ho6))
  go_ret2
  exact ⟨rfl, HG6.out⟩
theorem lcount_e (w : World) (d mb : Nat) (room : Int) (h : DE w d mb room) : Calls Tryz.prog 132 #[.agg #[.pointer (some ⟨d, 0, none⟩), .string ⟨#[]⟩, .int .i64 0], .int .i64 0] w fun e w' => e = .returned (.tuple #[.int .i64 0, .bool true]) ∧ Below w.heap.size w w' := by
  have HB := hide (below_alloc w (.cells #[.pointer (some ⟨d, 0, none⟩), .string ⟨#[]⟩, .int .i64 0] 235))
  have HC := hide (jcount_e _ d mb room (h.later HB.out))
  clear h
  go_enter Tryz.func132, Tryz.ntmps132
  go_wp2_with (go_at_call 209; (with_reducible refine Calls.mono HC.out ?_); rintro e w1 ⟨rfl, hb⟩; have HB1 := hide (below_trans HB.out hb); clear hb)
  go_ret2
  exact ⟨rfl, HB1.out⟩
set_option maxRecDepth 20000 in
theorem checkpoint_e (w : World) (d mb : Nat) (room : Int) (h : DE w d mb room) : Calls Tryz.prog 64 #[.pointer (some ⟨d, 0, none⟩), .int .i64 0] w fun e w' => e = .returned (.int .i64 0) ∧ Below w.heap.size w w' := by
  have HO := hide (open_e w d mb room h)
  have HC := hide (fun V (hb : Below w.heap.size w V) => lcount_e V d mb room (h.later hb))
  have HZ := hide (fun V => Blk.new V #[.pointer none, .string ⟨#[]⟩, .int .i64 0] 235)
  have HI93 := hide infoG
  clear h
  go_enter Tryz.func64, Tryz.ntmps64
  go_wp2_with (first
    | (go_at_call 130; (with_reducible refine Calls.mono HO.out ?_); rintro e w1 ⟨rfl, hg⟩; have HG1 := hide hg; clear hg)
    | ((with_reducible refine atSt 235 ?_); refine wp_storeB (c := #[.pointer (some ⟨d, 0, none⟩), .string ⟨#[]⟩, .int .i64 0]) HI93.out (by rfl) lg_one (HZ.out _) _ _ (by rfl) (by rfl) (by rfl) (by rfl) ?_; intro W6 hb6 ho6; have HB6 := hide hb6; have HG6 := hide (below_only1 (below_trans HG1.out (below_alloc _ _)) ho6 HG1.out.size); clear hb6 ho6)
    | ((with_reducible refine atLd 235 ?_); refine wp_loadB (c := #[.pointer (some ⟨d, 0, none⟩), .string ⟨#[]⟩, .int .i64 0]) HI93.out uG HB6.out _ (by rfl) (by rfl) (by rfl) ?_)
    | (go_at_call 132; (with_reducible refine Calls.mono (HC.out _ HG6.out) ?_); rintro e w7 ⟨rfl, hg⟩; have HG7 := hide (below_trans HG6.out hg); clear hg))
  go_ret
  exact ⟨rfl, HG7.out⟩
end Go.Proofs.YthgclfhfipfknaaGreat
