/- Package spill: calls that are refused. -/
/- Package spill: Get, Pages and Drop, upon what is found; calls that are refused. -/
import Derived.Test.YthgclfhfipfknaaGreatPLA
import Derived.WalkMore
namespace Go.Proofs.YthgclfhfipfknaaGreat
open Go.ChangeShapes Go.WideShapes Go.ChangeAt Go.RowKit Go.Maps
set_option linter.unusedVariables false

/-- What is found of a payload; the parts of a stub. -/
def kpA (s : ByteArray) (n : Int) (p : Option Addr) (l c : Nat) : Array Value := #[.string s, .int .i64 n, .slice p l c]
def stA (n : Int) (s : ByteArray) (f : Int) : Array Value := #[.int .i64 n, .string s, .int .i64 f]
theorem infoK : (Tryz.prog.info? 79).map (·.size) = some 3 := by kernel_rfl
theorem infoS : (Tryz.prog.info? 90).map (·.size) = some 3 := by kernel_rfl
theorem sizeK (s : ByteArray) (n : Int) (p : Option Addr) (l c : Nat) : (Tryz.prog.info? 79).map (·.size) = some (kpA s n p l c).size := infoK
theorem sizeS (n : Int) (s : ByteArray) (f : Int) : (Tryz.prog.info? 90).map (·.size) = some (stA n s f).size := infoS
theorem uK : ∃ d, Tryz.prog.underlying 79 = some d ∧ d.isRow = true := ⟨_, Tryz.underlying79, rfl⟩
theorem uS : ∃ d, Tryz.prog.underlying 90 = some d ∧ d.isRow = true := ⟨_, Tryz.underlying90, rfl⟩
theorem kp_one (s : ByteArray) (n : Int) (p : Option Addr) (l c : Nat) : (kpA s n p l c).all (·.oneCell') = true := all_oneCell_toArray (cs := [Value.string s, .int .i64 n, .slice p l c]) (by intro v hv; simp at hv; rcases hv with rfl | rfl | rfl <;> rfl)
theorem st_one (n : Int) (s : ByteArray) (f : Int) : (stA n s f).all (·.oneCell') = true := all_oneCell_toArray (cs := [Value.int .i64 n, .string s, .int .i64 f]) (by intro v hv; simp at hv; rcases hv with rfl | rfl | rfl <;> rfl)
theorem kp_new (w : World) : Blk (w.alloc (.cells #[.string ⟨#[]⟩, .int .i64 0, .slice none 0 0] 79)) w.heap.size (kpA ⟨#[]⟩ 0 none 0 0) 79 := Blk.new w _ _
theorem st_new (w : World) : Blk (w.alloc (.cells #[.int .i64 0, .string ⟨#[]⟩, .int .i64 0] 90)) w.heap.size (stA 0 ⟨#[]⟩ 0) 90 := Blk.new w _ _
theorem kp_cells {w : World} {g : Nat} {s : ByteArray} {n : Int} {p : Option Addr} {l c : Nat} (h : Blk w g (kpA s n p l c) 79) : w.cell? ⟨g, 0, none⟩ = some (.string s) ∧ w.cell? ⟨g, 1, none⟩ = some (.int .i64 n) ∧ w.cell? ⟨g, 2, none⟩ = some (.slice p l c) := ⟨h.cell 0, h.cell 1, h.cell 2⟩
theorem st_cells {w : World} {g : Nat} {s : ByteArray} {n f : Int} (h : Blk w g (stA n s f) 90) : w.cell? ⟨g, 0, none⟩ = some (.int .i64 n) ∧ w.cell? ⟨g, 1, none⟩ = some (.string s) ∧ w.cell? ⟨g, 2, none⟩ = some (.int .i64 f) := ⟨h.cell 0, h.cell 1, h.cell 2⟩
set_option maxRecDepth 20000 in
theorem find_stop (w : World) (v : Option Addr) (E : Int) (h : GoK w v E) (he : E ≠ 0) (s : ByteArray) : Calls Tryz.prog 37 #[.pointer v, .string s] w fun e w' => e = .returned (.tuple #[.agg (kpA ⟨#[]⟩ 0 none 0 0), .int .i64 E]) ∧ Below w.heap.size w w' := by
  have h17 := h.cases
  have hu : unN E = E := by unfold unN; rw [if_neg (by omega)]
  have HM := hide (fun X (hb : Below w.heap.size w X) => pmayRead_e X v zs zs_length E (.stop (h.later hb) he))
  have he0 : (E == 0) = false := by simpa using he
  have HI0 := hide (sizeK ⟨#[]⟩ 0 none 0 0)
  have HK0 := hide (kp_new w)
  have HB0 := hide (below_alloc w (.cells #[.string ⟨#[]⟩, .int .i64 0, .slice none 0 0] 79))
  rw [hu] at HM
  clear h hu h17
  go_enter Tryz.func37, Tryz.ntmps37
  go_wp2
  go_step3
  go_wp2_with (first
    | (go_at_call 98; (with_reducible refine Calls.mono (HM.out _ HB0.out) ?_); rintro e w4 ⟨rfl, hb⟩; have HB4 := hide (below_trans HB0.out hb); have HK4 := hide (Blk.later HK0.out hb); clear hb)
    | ((with_reducible refine atSt 79 ?_); refine wp_storeB (c := kpA ⟨#[]⟩ 0 none 0 0) HI0.out rfl (kp_one _ _ _ _ _) HK4.out _ _ (by rfl) (by rfl) (by rfl) (by rfl) ?_; intro W6 hb6 ho6; have HK6 := hide hb6; have HB6 := hide (below_only1 HB4.out ho6 (Nat.le_refl _)); clear hb6 ho6))
  rw [Exit.noGoto_ret]
  refine ret_blk2 (c := kpA ⟨#[]⟩ 0 none 0 0) HI0.out uK Tryz.results37 (by rfl) (by rfl) HK6.out ?_
  exact ⟨rfl, HB6.out⟩
end Go.Proofs.YthgclfhfipfknaaGreat

namespace Go.Proofs.YthgclfhfipfknaaGreat
open Go.ChangeShapes Go.WideShapes Go.ChangeAt Go.RowKit Go.Maps
set_option linter.unusedVariables false

set_option maxRecDepth 20000 in
theorem pget_e (w : World) (v : Option Addr) (s k : ByteArray) (n : Int) (p : Option Addr) (l c : Nat) (E : Int) (h : Calls Tryz.prog 37 #[.pointer v, .string s] w fun e w' => e = .returned (.tuple #[.agg (kpA k n p l c), .int .i64 E]) ∧ Below w.heap.size w w') : Calls Tryz.prog 19 #[.pointer v, .string s] w fun e w' => e = .returned (.tuple #[.string k, .int .i64 n, .int .i64 E]) ∧ Below w.heap.size w w' := by
  have HF := hide h
  have HI0 := hide (sizeK k n p l c)
  clear h
  go_enter Tryz.func19, Tryz.ntmps19
  go_wp2_with (first
    | (go_at_call 37; (with_reducible refine Calls.mono HF.out ?_); rintro e w4 ⟨rfl, hb⟩; have HS4 := hide hb.size; have HB4 := hide (below_trans hb (below_alloc w4 (.cells #[.string ⟨#[]⟩, .int .i64 0, .slice none 0 0] 79))); have HK4 := hide (kp_new w4); clear hb)
    | ((with_reducible refine atSt 79 ?_); refine wp_storeB (c := kpA k n p l c) (z := kpA ⟨#[]⟩ 0 none 0 0) HI0.out rfl (kp_one _ _ _ _ _) HK4.out _ _ (by rfl) (by rfl) (by rfl) (by rfl) ?_; intro W6 hb6 ho6; obtain ⟨k0, k1, k2⟩ := kp_cells hb6; have HB6 := hide (below_only1 HB4.out ho6 HS4.out); clear hb6 ho6))
  go_region
  go_wp2
  go_returns
  exact ⟨rfl, HB6.out.drew⟩
set_option maxRecDepth 20000 in
theorem ppages_e (w : World) (v : Option Addr) (s k : ByteArray) (n : Int) (p : Option Addr) (l c : Nat) (E : Int) (h : Calls Tryz.prog 37 #[.pointer v, .string s] w fun e w' => e = .returned (.tuple #[.agg (kpA k n p l c), .int .i64 E]) ∧ Below w.heap.size w w') : Calls Tryz.prog 21 #[.pointer v, .string s] w fun e w' => e = .returned (.tuple #[.slice p l c, .int .i64 E]) ∧ Below w.heap.size w w' := by
  have HF := hide h
  have HI0 := hide (sizeK k n p l c)
  clear h
  go_enter Tryz.func21, Tryz.ntmps21
  go_wp2_with (first
    | (go_at_call 37; (with_reducible refine Calls.mono HF.out ?_); rintro e w4 ⟨rfl, hb⟩; have HS4 := hide hb.size; have HB4 := hide (below_trans hb (below_alloc w4 (.cells #[.string ⟨#[]⟩, .int .i64 0, .slice none 0 0] 79))); have HK4 := hide (kp_new w4); clear hb)
    | ((with_reducible refine atSt 79 ?_); refine wp_storeB (c := kpA k n p l c) (z := kpA ⟨#[]⟩ 0 none 0 0) HI0.out rfl (kp_one _ _ _ _ _) HK4.out _ _ (by rfl) (by rfl) (by rfl) (by rfl) ?_; intro W6 hb6 ho6; obtain ⟨k0, k1, k2⟩ := kp_cells hb6; have HB6 := hide (below_only1 HB4.out ho6 HS4.out); clear hb6 ho6))
  go_ret2
  exact ⟨rfl, HB6.out⟩
theorem drop_stop (w : World) (v : Option Addr) (E : Int) (h : ChK w v E) (he : E ≠ 0) (h4 : E ≠ 4) (s : ByteArray) : Calls Tryz.prog 9 #[.pointer v, .string s] w fun e w' => e = .returned (.int .i64 E) ∧ Below w.heap.size w w' := by
  have hu : unN E = E := by unfold unN; rw [if_neg h4]
  have HB0 := hide (below_alloc w (.cells #[.pointer v] 24))
  have HM := hide (pmayChange_e _ v E _ (.stop (h.later HB0.out) he))
  rw [hu] at HM
  have he0 : (E == 0) = false := by simpa using he
  clear h hu
  go_enter Tryz.func9, Tryz.ntmps9
  go_wp2_with (first
    | (go_at_call 36; (with_reducible refine Calls.mono HM.out ?_); rintro e w4 ⟨rfl, hb⟩; have HB4 := hide (below_trans HB0.out hb); clear hb))
  go_ret
  exact ⟨rfl, HB4.out⟩
theorem pput_stop (w : World) (v : Option Addr) (E : Int) (h : ChK w v E) (he : E ≠ 0) (h4 : E ≠ 4) (s : ByteArray) : Calls Tryz.prog 12 #[.pointer v, .string s] w fun e w' => e = .returned (.tuple #[.string ⟨#[]⟩, .int .i64 E]) ∧ Below w.heap.size w w' := by
  have hu : unN E = E := by unfold unN; rw [if_neg h4]
  have HM := hide (pmayChange_e _ v E _ (.stop h he))
  rw [hu] at HM
  have he0 : (E == 0) = false := by simpa using he
  clear h hu
  go_enter Tryz.func12, Tryz.ntmps12
  go_wp2_with (first
    | (go_at_call 36; (with_reducible refine Calls.mono HM.out ?_); rintro e w4 ⟨rfl, hb⟩; have HB4 := hide hb; clear hb))
  go_ret2
  exact ⟨rfl, HB4.out⟩
end Go.Proofs.YthgclfhfipfknaaGreat
