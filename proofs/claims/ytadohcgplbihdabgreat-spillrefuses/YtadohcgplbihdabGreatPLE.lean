/- Package spill: what a call comes to that is refused. -/
/- Package spill: calls that are refused. -/
/- Package spill: Get, Pages and Drop, upon what is found; calls that are refused. -/
/- Package spill: a stub without a chain is read. -/
/- Package spill: what is found of a stub that is cut short. -/
import Derived.Test.YtadohcgplbihdabGreatTP
import Derived.Test.YtadohcgplbihdabGreatSA
import Derived.WalkMore
import Derived.Test.YtadohcgplbihdabGreatVG
import Derived.Test.YtadohcgplbihdabGreatBA
namespace Go.Proofs.YtadohcgplbihdabGreat
open Go.ChangeShapes Go.WideShapes Go.ChangeAt Go.RowKit Go.Maps
set_option linter.unusedVariables false

/-- An error, but that there is no such page. -/
def unN (e : Int) : Int := if e = 4 then 0 else e
theorem unlessNone_e (w : World) (E : Int) : Calls Tryz.prog 87 #[.int .i64 E] w fun e w' => e = .returned (.int .i64 (unN E)) ∧ w' = w := by
  unfold unN
  by_cases h : E = 4
  · have h4 : (E == 4) = true := by simpa using h
    rw [if_pos h]
    go_enter Tryz.func87, Tryz.ntmps87
    go_wp2
    go_ret
    exact ⟨rfl, rfl⟩
  · have h4 : (E == 4) = false := by simpa using h
    rw [if_neg h]
    go_enter Tryz.func87, Tryz.ntmps87
    go_wp2
    go_ret
    exact ⟨rfl, rfl⟩
theorem pmayRead_e (w : World) (v : Option Addr) (l : List UInt8) (hl : l.length = 256) (E : Int) (h : PgK w v 0 l E) : Calls Tryz.prog 88 #[.pointer v] w fun e w' => e = .returned (.int .i64 (unN E)) ∧ Below w.heap.size w w' := by
  have HP := hide (page_e w v 0 l E h)
  have HU := hide unlessNone_e
  have hz := zeroP
  clear h
  go_enter Tryz.func88, Tryz.ntmps88
  go_wp2_with (first
    | (go_at_call 79; (with_reducible refine Calls.mono HP.out ?_); rintro e w4 ⟨rfl, hb⟩; have HB4 := hide (below_trans hb (below_alloc w4 (.cells (bc zs) 39))); have HN4 := hide (PAt.new w4 zs); have HS4 := hide hb.size; clear hb)
    | ((with_reducible refine atSt 39 ?_); refine wp_storeP hl zs_length HN4.out _ _ (by rfl) (by rfl) (by rfl) (by rfl) ?_; intro W5 hp hb hk; have HB5 := hide (hb _ _ HB4.out HS4.out); clear hp hb hk)
    | (go_at_call 87; (with_reducible refine Calls.mono (HU.out _ _) ?_); rintro e w5 ⟨rfl, rfl⟩))
  go_ret
  exact ⟨rfl, HB5.out⟩
theorem pmayChange_e (w : World) (v : Option Addr) (E : Int) (R : World → Prop) (h : PtK w v 0 zs E R) : Calls Tryz.prog 52 #[.pointer v] w fun e w' => e = .returned (.int .i64 (unN E)) ∧ R w' := by
  have HP := hide (put_e w v 0 zs zs_length E R h)
  have HU := hide unlessNone_e
  have hz := zeroP
  clear h
  go_enter Tryz.func52, Tryz.ntmps52
  go_wp2_with (first
    | (go_at_call 15; (with_reducible refine Calls.mono HP.out ?_); rintro e w4 ⟨rfl, hb⟩; have HB4 := hide hb; clear hb)
    | (go_at_call 87; (with_reducible refine Calls.mono (HU.out _ _) ?_); rintro e w5 ⟨rfl, rfl⟩))
  go_ret
  exact ⟨rfl, HB4.out⟩
end Go.Proofs.YtadohcgplbihdabGreat

namespace Go.Proofs.YtadohcgplbihdabGreat
open Go.ChangeShapes Go.WideShapes Go.ChangeAt Go.RowKit Go.Maps
set_option linter.unusedVariables false

/-- What is found of a payload; the parts of a stub. -/
def kpA (s : ByteArray) (n : Int) (p : Option Addr) (l c : Nat) : Array Value := #[.string s, .int .i64 n, .slice p l c]
def stA (n : Int) (s : ByteArray) (f : Int) : Array Value := #[.int .i64 n, .string s, .int .i64 f]
theorem infoK : (Tryz.prog.info? 107).map (·.size) = some 3 := by kernel_rfl
theorem infoS : (Tryz.prog.info? 118).map (·.size) = some 3 := by kernel_rfl
theorem sizeK (s : ByteArray) (n : Int) (p : Option Addr) (l c : Nat) : (Tryz.prog.info? 107).map (·.size) = some (kpA s n p l c).size := infoK
theorem sizeS (n : Int) (s : ByteArray) (f : Int) : (Tryz.prog.info? 118).map (·.size) = some (stA n s f).size := infoS
theorem uK : ∃ d, Tryz.prog.underlying 107 = some d ∧ d.isRow = true := ⟨_, Tryz.underlying107, rfl⟩
theorem uS : ∃ d, Tryz.prog.underlying 118 = some d ∧ d.isRow = true := ⟨_, Tryz.underlying118, rfl⟩
theorem kp_one (s : ByteArray) (n : Int) (p : Option Addr) (l c : Nat) : (kpA s n p l c).all (·.oneCell') = true := all_oneCell_toArray (cs := [Value.string s, .int .i64 n, .slice p l c]) (by intro v hv; simp at hv; rcases hv with rfl | rfl | rfl <;> rfl)
theorem st_one (n : Int) (s : ByteArray) (f : Int) : (stA n s f).all (·.oneCell') = true := all_oneCell_toArray (cs := [Value.int .i64 n, .string s, .int .i64 f]) (by intro v hv; simp at hv; rcases hv with rfl | rfl | rfl <;> rfl)
theorem kp_new (w : World) : Blk (w.alloc (.cells #[.string ⟨#[]⟩, .int .i64 0, .slice none 0 0] 107)) w.heap.size (kpA ⟨#[]⟩ 0 none 0 0) 107 := Blk.new w _ _
theorem st_new (w : World) : Blk (w.alloc (.cells #[.int .i64 0, .string ⟨#[]⟩, .int .i64 0] 118)) w.heap.size (stA 0 ⟨#[]⟩ 0) 118 := Blk.new w _ _
theorem kp_cells {w : World} {g : Nat} {s : ByteArray} {n : Int} {p : Option Addr} {l c : Nat} (h : Blk w g (kpA s n p l c) 107) : w.cell? ⟨g, 0, none⟩ = some (.string s) ∧ w.cell? ⟨g, 1, none⟩ = some (.int .i64 n) ∧ w.cell? ⟨g, 2, none⟩ = some (.slice p l c) := ⟨h.cell 0, h.cell 1, h.cell 2⟩
theorem st_cells {w : World} {g : Nat} {s : ByteArray} {n f : Int} (h : Blk w g (stA n s f) 118) : w.cell? ⟨g, 0, none⟩ = some (.int .i64 n) ∧ w.cell? ⟨g, 1, none⟩ = some (.string s) ∧ w.cell? ⟨g, 2, none⟩ = some (.int .i64 f) := ⟨h.cell 0, h.cell 1, h.cell 2⟩
set_option maxRecDepth 20000 in
theorem find_stop (w : World) (v : Option Addr) (E : Int) (h : GoK w v E) (he : E ≠ 0) (s : ByteArray) : Calls Tryz.prog 53 #[.pointer v, .string s] w fun e w' => e = .returned (.tuple #[.agg (kpA ⟨#[]⟩ 0 none 0 0), .int .i64 E]) ∧ Below w.heap.size w w' := by
  have h17 := h.cases
  have hu : unN E = E := by unfold unN; rw [if_neg (by omega)]
  have HM := hide (fun X (hb : Below w.heap.size w X) => pmayRead_e X v zs zs_length E (.stop (h.later hb) he))
  have he0 : (E == 0) = false := by simpa using he
  have HI0 := hide (sizeK ⟨#[]⟩ 0 none 0 0)
  have HK0 := hide (kp_new w)
  have HB0 := hide (below_alloc w (.cells #[.string ⟨#[]⟩, .int .i64 0, .slice none 0 0] 107))
  rw [hu] at HM
  clear h hu h17
  go_enter Tryz.func53, Tryz.ntmps53
  go_wp2
  go_step3
  go_wp2_with (first
    | (go_at_call 88; (with_reducible refine Calls.mono (HM.out _ HB0.out) ?_); rintro e w4 ⟨rfl, hb⟩; have HB4 := hide (below_trans HB0.out hb); have HK4 := hide (Blk.later HK0.out hb); clear hb)
    | ((with_reducible refine atSt 107 ?_); refine wp_storeB (c := kpA ⟨#[]⟩ 0 none 0 0) HI0.out rfl (kp_one _ _ _ _ _) HK4.out _ _ (by rfl) (by rfl) (by rfl) (by rfl) ?_; intro W6 hb6 ho6; have HK6 := hide hb6; have HB6 := hide (below_only1 HB4.out ho6 (Nat.le_refl _)); clear hb6 ho6))
  rw [Exit.noGoto_ret]
  refine ret_blk2 (c := kpA ⟨#[]⟩ 0 none 0 0) HI0.out uK Tryz.results53 (by rfl) (by rfl) HK6.out ?_
  exact ⟨rfl, HB6.out⟩
end Go.Proofs.YtadohcgplbihdabGreat

namespace Go.Proofs.YtadohcgplbihdabGreat
open Go.ChangeShapes Go.WideShapes Go.ChangeAt Go.RowKit Go.Maps
set_option linter.unusedVariables false

set_option maxRecDepth 20000 in
theorem pget_e (w : World) (v : Option Addr) (s k : ByteArray) (n : Int) (p : Option Addr) (l c : Nat) (E : Int) (h : Calls Tryz.prog 53 #[.pointer v, .string s] w fun e w' => e = .returned (.tuple #[.agg (kpA k n p l c), .int .i64 E]) ∧ Below w.heap.size w w') : Calls Tryz.prog 27 #[.pointer v, .string s] w fun e w' => e = .returned (.tuple #[.string k, .int .i64 n, .int .i64 E]) ∧ Below w.heap.size w w' := by
  have HF := hide h
  have HI0 := hide (sizeK k n p l c)
  clear h
  go_enter Tryz.func27, Tryz.ntmps27
  go_wp2_with (first
    | (go_at_call 53; (with_reducible refine Calls.mono HF.out ?_); rintro e w4 ⟨rfl, hb⟩; have HS4 := hide hb.size; have HB4 := hide (below_trans hb (below_alloc w4 (.cells #[.string ⟨#[]⟩, .int .i64 0, .slice none 0 0] 107))); have HK4 := hide (kp_new w4); clear hb)
    | ((with_reducible refine atSt 107 ?_); refine wp_storeB (c := kpA k n p l c) (z := kpA ⟨#[]⟩ 0 none 0 0) HI0.out rfl (kp_one _ _ _ _ _) HK4.out _ _ (by rfl) (by rfl) (by rfl) (by rfl) ?_; intro W6 hb6 ho6; obtain ⟨k0, k1, k2⟩ := kp_cells hb6; have HB6 := hide (below_only1 HB4.out ho6 HS4.out); clear hb6 ho6))
  go_region
  go_wp2
  go_returns
  exact ⟨rfl, HB6.out.drew⟩
set_option maxRecDepth 20000 in
theorem ppages_e (w : World) (v : Option Addr) (s k : ByteArray) (n : Int) (p : Option Addr) (l c : Nat) (E : Int) (h : Calls Tryz.prog 53 #[.pointer v, .string s] w fun e w' => e = .returned (.tuple #[.agg (kpA k n p l c), .int .i64 E]) ∧ Below w.heap.size w w') : Calls Tryz.prog 28 #[.pointer v, .string s] w fun e w' => e = .returned (.tuple #[.slice p l c, .int .i64 E]) ∧ Below w.heap.size w w' := by
  have HF := hide h
  have HI0 := hide (sizeK k n p l c)
  clear h
  go_enter Tryz.func28, Tryz.ntmps28
  go_wp2_with (first
    | (go_at_call 53; (with_reducible refine Calls.mono HF.out ?_); rintro e w4 ⟨rfl, hb⟩; have HS4 := hide hb.size; have HB4 := hide (below_trans hb (below_alloc w4 (.cells #[.string ⟨#[]⟩, .int .i64 0, .slice none 0 0] 107))); have HK4 := hide (kp_new w4); clear hb)
    | ((with_reducible refine atSt 107 ?_); refine wp_storeB (c := kpA k n p l c) (z := kpA ⟨#[]⟩ 0 none 0 0) HI0.out rfl (kp_one _ _ _ _ _) HK4.out _ _ (by rfl) (by rfl) (by rfl) (by rfl) ?_; intro W6 hb6 ho6; obtain ⟨k0, k1, k2⟩ := kp_cells hb6; have HB6 := hide (below_only1 HB4.out ho6 HS4.out); clear hb6 ho6))
  go_ret2
  exact ⟨rfl, HB6.out⟩
theorem drop_stop (w : World) (v : Option Addr) (E : Int) (h : ChK w v E) (he : E ≠ 0) (h4 : E ≠ 4) (s : ByteArray) : Calls Tryz.prog 19 #[.pointer v, .string s] w fun e w' => e = .returned (.int .i64 E) ∧ Below w.heap.size w w' := by
  have hu : unN E = E := by unfold unN; rw [if_neg h4]
  have HB0 := hide (below_alloc w (.cells #[.pointer v] 24))
  have HM := hide (pmayChange_e _ v E _ (.stop (h.later HB0.out) he))
  rw [hu] at HM
  have he0 : (E == 0) = false := by simpa using he
  clear h hu
  go_enter Tryz.func19, Tryz.ntmps19
  go_wp2_with (first
    | (go_at_call 52; (with_reducible refine Calls.mono HM.out ?_); rintro e w4 ⟨rfl, hb⟩; have HB4 := hide (below_trans HB0.out hb); clear hb))
  go_ret
  exact ⟨rfl, HB4.out⟩
theorem pput_stop (w : World) (v : Option Addr) (E : Int) (h : ChK w v E) (he : E ≠ 0) (h4 : E ≠ 4) (s : ByteArray) : Calls Tryz.prog 22 #[.pointer v, .string s] w fun e w' => e = .returned (.tuple #[.string ⟨#[]⟩, .int .i64 E]) ∧ Below w.heap.size w w' := by
  have hu : unN E = E := by unfold unN; rw [if_neg h4]
  have HM := hide (pmayChange_e _ v E _ (.stop h he))
  rw [hu] at HM
  have he0 : (E == 0) = false := by simpa using he
  clear h hu
  go_enter Tryz.func22, Tryz.ntmps22
  go_wp2_with (first
    | (go_at_call 52; (with_reducible refine Calls.mono HM.out ?_); rintro e w4 ⟨rfl, hb⟩; have HB4 := hide hb; clear hb))
  go_ret2
  exact ⟨rfl, HB4.out⟩
end Go.Proofs.YtadohcgplbihdabGreat

namespace Go.Proofs.YtadohcgplbihdabGreat
open Go.ChangeShapes Go.WideShapes Go.ChangeAt Go.RowKit Go.Maps
set_option linter.unusedVariables false

set_option maxRecDepth 20000 in
set_option maxHeartbeats 1000000 in
theorem read_short (w : World) (s : ByteArray) (n : Nat) (hn : n ≤ 40) (hu : Rec.vrdU s.data.toList = n) (hN : Rec.vrdN s.data.toList = 1) (hsz : n + 1 ≤ s.size) (hs : s.size ≤ 140737488355328) :
    Calls Tryz.prog 89 #[.string s] w fun e w' => e = .returned (.tuple #[.agg (stA n (s.extract 1 (n + 1)) 0), .int .i64 (n + 1 : Nat), .int .i64 0]) ∧ Below w.heap.size w w' := by
  have HV := hide (fun V => Rec.varint_walk s hs V)
  rw [hu, hN] at HV
  have l1 : ¬ (4000 : Int) < (n : Int) := by omega
  have l2 : ¬ (40 : Int) < (n : Int) := by omega
  have l3 : min (n : Int) 40 = n := by omega
  have l4 : IntKind.i64.wrap (n : Int) = n := by rw [IntKind.wrap_i64]; omega
  have l5 : IntKind.i64.wrap (1 + (n : Int)) = (n + 1 : Nat) := by rw [IntKind.wrap_i64]; omega
  have l6 : ¬ (s.size : Int) < (n + 1 : Nat) := by omega
  clear hu hN
  go_enter Tryz.func89, Tryz.ntmps89
  go_wp2_with (first
    | (go_at_call 121; (with_reducible refine Calls.mono (HV.out _) ?_); rintro e w4 ⟨rfl, rfl⟩))
  go_loopw [11] (fun v wr => v = .int .i64 ((n : Int) + 1) ∧ wr = ((w.alloc (.cells #[.int .i64 0, .string ⟨#[]⟩, .int .i64 0] 118)).alloc (.cells #[.int .i64 n, .string (s.extract 1 (n + 1)), .int .i64 0] 118))) (fun _ _ => 0)
  case atStart => exact ⟨rfl, rfl⟩
  case round =>
    obtain ⟨rfl, rfl⟩ := hrel
    go_wp2
    go_returns
    exact ⟨rfl, below_trans (below_alloc _ _) (below_alloc _ _)⟩
set_option maxRecDepth 20000 in
set_option maxHeartbeats 1000000 in
theorem read_cut (w : World) (s : ByteArray) (n : Nat) (hn : n ≤ 40) (hu : Rec.vrdU s.data.toList = n) (hN : Rec.vrdN s.data.toList = 1) (hsz : s.size < n + 1) :
    Calls Tryz.prog 89 #[.string s] w fun e w' => e = .returned (.tuple #[.agg (stA 0 ⟨#[]⟩ 0), .int .i64 0, .int .i64 8]) ∧ Below w.heap.size w w' := by
  have HV := hide (fun V => Rec.varint_walk s (by omega) V)
  rw [hu, hN] at HV
  have l1 : ¬ (4000 : Int) < (n : Int) := by omega
  have l2 : ¬ (40 : Int) < (n : Int) := by omega
  have l3 : min (n : Int) 40 = n := by omega
  have l4 : IntKind.i64.wrap (n : Int) = n := by rw [IntKind.wrap_i64]; omega
  have l6 : (s.size : Int) < (n : Int) + 1 := by omega
  clear hu hN
  go_enter Tryz.func89, Tryz.ntmps89
  go_wp2_with (first
    | (go_at_call 121; (with_reducible refine Calls.mono (HV.out _) ?_); rintro e w4 ⟨rfl, rfl⟩))
  go_returns
  exact ⟨rfl, below_trans (below_alloc _ _) (below_alloc _ _)⟩
end Go.Proofs.YtadohcgplbihdabGreat

namespace Go.Proofs.YtadohcgplbihdabGreat
open Go.ChangeShapes Go.WideShapes Go.ChangeAt Go.RowKit Go.Maps
set_option linter.unusedVariables false

theorem behind_e (w : World) (n : Nat) (s : ByteArray) (f : Int) (h1 : s.size ≤ n) (h2 : n ≤ 4000) : Calls Tryz.prog 91 #[.agg (stA n s f)] w fun e w' => e = .returned (.int .i64 ((n : Int) - s.size)) ∧ Below w.heap.size w w' := by
  have l1 : IntKind.i64.wrap ((n : Int) - s.size) = (n : Int) - s.size := by rw [IntKind.wrap_i64]; omega
  unfold stA
  go_enter Tryz.func91, Tryz.ntmps91
  go_wp2
  go_ret
  exact ⟨rfl, below_alloc _ _⟩
theorem Tr.mayR {w : World} {t pm n : Nat} {P : Nat → List UInt8} {K : Nat} {wr : Bool} (h : Tr w t pm n P K wr) : PgK w (some ⟨t, 0, none⟩) 0 zs 4 := .out h (.inl (by omega))
set_option maxRecDepth 20000 in
set_option maxHeartbeats 1000000 in
theorem find_cut (w : World) (t pm m : Nat) {P : Nat → List UInt8} {K : Nat} {wr : Bool} (h : Tr w t pm m P K wr) (s : ByteArray) (n : Nat) (hn : n ≤ 40) (hu : Rec.vrdU s.data.toList = n) (hN : Rec.vrdN s.data.toList = 1) (hsz : s.size < n + 1) :
    Calls Tryz.prog 53 #[.pointer (some ⟨t, 0, none⟩), .string s] w fun e w' => e = .returned (.tuple #[.agg (kpA ⟨#[]⟩ 0 none 0 0), .int .i64 8]) ∧ Below w.heap.size w w' := by
  have HM := hide (fun X (hb : Below w.heap.size w X) => pmayRead_e X _ zs zs_length 4 (h.later hb).mayR)
  have HR := hide (fun X => read_cut X s n hn hu hN hsz)
  have HI0 := hide (sizeK ⟨#[]⟩ 0 none 0 0)
  have HJ0 := hide (sizeS 0 ⟨#[]⟩ 0)
  have HK0 := hide (kp_new w)
  have HB0 := hide (below_alloc w (.cells #[.string ⟨#[]⟩, .int .i64 0, .slice none 0 0] 107))
  clear h hu hN hsz hn
  go_enter Tryz.func53, Tryz.ntmps53
  go_wp2
  go_step3
  go_wp2_with (first
    | (go_at_call 88; (with_reducible refine Calls.mono (HM.out _ HB0.out) ?_); rintro e w4 ⟨rfl, hb⟩; rw [show unN 4 = 0 by rfl]; have HB4 := hide (below_trans HB0.out hb); have HK4 := hide (Blk.later HK0.out hb); clear hb)
    | (go_at_call 89; (with_reducible refine Calls.mono (HR.out _) ?_); rintro e w5 ⟨rfl, hb⟩; have HB5 := hide (below_trans (below_trans HB4.out hb) (below_alloc w5 (.cells #[.int .i64 0, .string ⟨#[]⟩, .int .i64 0] 118))); have HK5 := hide (Blk.later (Blk.later HK4.out hb) (below_alloc w5 (.cells #[.int .i64 0, .string ⟨#[]⟩, .int .i64 0] 118))); have HS5 := hide (st_new w5); have HZ5 := hide (show w.heap.size < w5.heap.size from Nat.lt_of_lt_of_le (Blk.later HK4.out hb).lt (Nat.le_refl _)); clear hb)
    | ((with_reducible refine atSt 118 ?_); refine wp_storeB (c := stA 0 ⟨#[]⟩ 0) HJ0.out rfl (st_one _ _ _) HS5.out _ _ (by rfl) (by rfl) (by rfl) (by rfl) ?_; intro W6 hb6 ho6; have HK6 := hide (Blk.only HK5.out ho6 (by have := HZ5.out; simp; omega)); have HB6 := hide (below_only1 HB5.out ho6 (Nat.le_of_lt HZ5.out)); clear hb6 ho6)
    | ((with_reducible refine atSt 107 ?_); refine wp_storeB (c := kpA ⟨#[]⟩ 0 none 0 0) HI0.out rfl (kp_one _ _ _ _ _) HK6.out _ _ (by rfl) (by rfl) (by rfl) (by rfl) ?_; intro W7 hb7 ho7; have HK7 := hide hb7; have HB7 := hide (below_only1 HB6.out ho7 (Nat.le_refl _)); clear hb7 ho7))
  rw [Exit.noGoto_ret]
  refine ret_blk2 (c := kpA ⟨#[]⟩ 0 none 0 0) HI0.out uK Tryz.results53 (by rfl) (by rfl) HK7.out ?_
  exact ⟨rfl, HB7.out⟩
end Go.Proofs.YtadohcgplbihdabGreat
