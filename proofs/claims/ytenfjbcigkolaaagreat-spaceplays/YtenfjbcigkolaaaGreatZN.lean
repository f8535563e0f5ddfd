/- Rows of numbers and of pages that came in as arguments. -/
/- A row of calls that came in as an argument. -/
/- Package space: Get and Set. -/
/- The document's space: what lies in memory; Has. -/
/- The document's space: Take. -/
import Derived.Test.YtenfjbcigkolaaaGreatTJ
import Derived.Test.YtenfjbcigkolaaaGreatRows
import Derived.SizedLaws
import Derived.Deep.Slices
import Derived.Carry
import Derived.Test.YtenfjbcigkolaaaGreatQM
namespace Go.Proofs.YtenfjbcigkolaaaGreat
open Go.ChangeShapes Go.WideShapes Go.ChangeAt Go.RowKit Go.Deep
set_option linter.unusedVariables false

/-- A row of numbers that came in. -/
def IntP (w : World) (p : Option Addr) (len : Nat) (C : Nat → Int) : Prop := 0 < len → ∃ b o, p = some ⟨b, o, none⟩ ∧ ∀ i, i < len → w.cell? ⟨b, o + i, none⟩ = some (.int .i64 (C i))
theorem cell_later1 {w w' : World} (hb : Below w.heap.size w w') {b k : Nat} {v : Value} (h : w.cell? ⟨b, k, none⟩ = some v) : w'.cell? ⟨b, k, none⟩ = some v := cell_later hb h
theorem IntP.later {w w' : World} {p : Option Addr} {len : Nat} {C : Nat → Int} (h : IntP w p len C) (hb : Below w.heap.size w w') : IntP w' p len C := fun h0 => let ⟨b, o, e, g⟩ := h h0; ⟨b, o, e, fun i hi => cell_later1 hb (g i hi)⟩
theorem cellsInt : Tryz.prog.cellsOf 3 = 1 := by kernel_rfl
theorem one_ofR {α : Type} {l : List α} (h : l.length = 1) : ∃ a, l = [a] := by
  match l, h with
  | [a], _ => exact ⟨a, rfl⟩
set_option maxRecDepth 100000 in
theorem open_intsR {H : Type} {enc : TypeId × Value → H} {w : World} {fuel : Nat} {cs : List Value} {x : DataW H × List MemPlace} (h : DataW.trod enc Tryz.prog w 0 (fun _ => true) true fuel 42 cs = some x) :
    ∃ (p : Option Addr) (len cap : Nat) (A : Nat → Int), cs = [.slice p len cap] ∧ IntP w p len A := by
  rcases open_slice Tryz.underlying42 h with h0 | ⟨a, len, cap, m, n, D, Pl, rfl, hb, hl, hm, hmm, rfl, hx⟩
  · exact ⟨none, 0, 0, fun _ => 0, h0.1, fun h => by omega⟩
  simp only [if_true] at hmm
  by_cases h0 : len = 0
  · subst h0; exact ⟨some a, 0, cap, fun _ => 0, rfl, fun h => by omega⟩
  have each : ∀ i, i < m → ∃ q : Int, w.cell? (a.add i) = some (.int .i64 q) := by
    intro i hi
    obtain ⟨cs', h1, h2⟩ := hx i hi
    rw [cellsInt] at h1
    obtain ⟨_, hlen, hcell⟩ := World.cells?_some h1
    obtain ⟨v0, rfl⟩ := one_ofR hlen
    obtain ⟨p, e0, _, hwf⟩ := DataW.trod_int Tryz.underlying3 h2
    simp at e0
    subst e0
    have c0 := hcell 0 (by omega)
    rw [add_add] at c0
    exact ⟨p, by simpa using c0⟩
  obtain ⟨q, hq⟩ := choose_lt each
  obtain ⟨b, o, spot⟩ := a
  have hspot : spot = none := by simpa [Addr.add] using World.cell?_spot (hq 0 (by omega))
  subst hspot
  refine ⟨some ⟨b, o, none⟩, len, cap, q, rfl, fun _ => ⟨b, o, rfl, fun j hj => ?_⟩⟩
  have c0 := hq j (by omega)
  rw [add_plain] at c0
  exact c0
end Go.Proofs.YtenfjbcigkolaaaGreat

namespace Go.Proofs.YtenfjbcigkolaaaGreat
open Go.ChangeShapes Go.WideShapes Go.ChangeAt Go.RowKit Go.Deep
set_option linter.unusedVariables false

theorem cellsOp : Tryz.prog.cellsOf 69 = 3 := by kernel_rfl
theorem cellsU32 : Tryz.prog.cellsOf 63 = 1 := by kernel_rfl
theorem three_of {α : Type} {l : List α} (h : l.length = 3) : ∃ a b c, l = [a, b, c] := by
  match l, h with
  | [a, b, c], _ => exact ⟨a, b, c, rfl⟩
theorem u32_of {n : Int} (h : (Lit.int .u32 n).wf = true) : ∃ x : Nat, n = (x : Int) ∧ x < 4294967296 := by
  simp only [Lit.wf, Bool.and_eq_true, decide_eq_true_eq] at h
  have e1 : IntKind.u32.min = 0 := by decide
  have e2 : IntKind.u32.max = 4294967295 := by decide
  rw [e1, e2] at h
  exact ⟨n.toNat, by omega, by omega⟩
set_option maxRecDepth 100000 in
theorem open_opsR {H : Type} {enc : TypeId × Value → H} {w : World} {fuel : Nat} {cs : List Value} {x : DataW H × List MemPlace} (h : DataW.trod enc Tryz.prog w 0 (fun _ => true) true fuel 60 cs = some x) :
    ∃ (p : Option Addr) (len cap : Nat) (D A : Nat → Int) (X : Nat → Nat), cs = [.slice p len cap] ∧ (0 < len → ∃ b o, p = some ⟨b, o, none⟩ ∧ ∀ i, i < len → w.cell? ⟨b, o + i * 3, none⟩ = some (.int .i64 (D i)) ∧ w.cell? ⟨b, o + i * 3 + 1, none⟩ = some (.int .i64 (A i)) ∧ w.cell? ⟨b, o + i * 3 + 2, none⟩ = some (.int .u32 (X i : Int)) ∧ X i < 4294967296) := by
  rcases open_slice Tryz.underlying60 h with h0 | ⟨a, len, cap, m, n, D, Pl, rfl, hb, hl, hm, hmm, rfl, hx⟩
  · exact ⟨none, 0, 0, fun _ => 0, fun _ => 0, fun _ => 0, h0.1, fun h => by omega⟩
  simp only [if_true] at hmm
  by_cases h0 : len = 0
  · subst h0; exact ⟨some a, 0, cap, fun _ => 0, fun _ => 0, fun _ => 0, rfl, fun h => by omega⟩
  have each : ∀ i, i < m → ∃ q : Int × Int × Nat, w.cell? (a.add (i * 3)) = some (.int .i64 q.1) ∧ w.cell? (a.add (i * 3 + 1)) = some (.int .i64 q.2.1) ∧ w.cell? (a.add (i * 3 + 2)) = some (.int .u32 (q.2.2 : Int)) ∧ q.2.2 < 4294967296 := by
    intro i hi
    obtain ⟨cs', h1, h2⟩ := hx i hi
    rw [cellsOp] at h1
    obtain ⟨_, hlen, hcell⟩ := World.cells?_some h1
    obtain ⟨xs, k, hk, hxy, _, hxl, hf⟩ := DataW.trod_struct Tryz.underlying69 h2
    obtain ⟨y0, y1, y2, rfl⟩ := three_of (show xs.length = 3 from hxl)
    obtain ⟨v0, v1, v2, rfl⟩ := three_of hlen
    have g0 := hf 0 _ rfl
    have g1 := hf 1 _ rfl
    have g2 := hf 2 _ rfl
    simp [cellsInt, cellsU32] at g0 g1 g2
    obtain ⟨p0, e0, _, _⟩ := DataW.trod_int Tryz.underlying3 g0
    obtain ⟨p1, e1, _, _⟩ := DataW.trod_int Tryz.underlying3 g1
    obtain ⟨p2, e2, _, wf⟩ := DataW.trod_int Tryz.underlying63 g2
    simp at e0 e1 e2
    subst e0 e1 e2
    obtain ⟨xx, rfl, hxx⟩ := u32_of wf
    have c0 := hcell 0 (by omega)
    have c1 := hcell 1 (by omega)
    have c2 := hcell 2 (by omega)
    rw [add_add] at c0 c1 c2
    exact ⟨⟨p0, p1, xx⟩, by simpa using c0, by simpa using c1, by simpa using c2, hxx⟩
  obtain ⟨q, hq⟩ := choose_lt each
  obtain ⟨b, o, spot⟩ := a
  have hspot : spot = none := by simpa [Addr.add] using World.cell?_spot (hq 0 (by omega)).1
  subst hspot
  refine ⟨some ⟨b, o, none⟩, len, cap, fun i => (q i).1, fun i => (q i).2.1, fun i => (q i).2.2, rfl, fun _ => ⟨b, o, rfl, fun i hi => ?_⟩⟩
  obtain ⟨c0, c1, c2, c3⟩ := hq i (by omega)
  rw [add_plain] at c0 c1 c2
  rw [Nat.add_assoc o (i * 3) 1, Nat.add_assoc o (i * 3) 2]
  exact ⟨c0, c1, c2, c3⟩
end Go.Proofs.YtenfjbcigkolaaaGreat

namespace Go.Proofs.YtenfjbcigkolaaaGreat
variable {sv : Value}
open Go.ChangeShapes Go.WideShapes Go.ChangeAt Go.RowKit Go.Maps
set_option linter.unusedVariables false

theorem lt8 {i : Nat} (h : i < 8) : i = 0 ∨ i = 1 ∨ i = 2 ∨ i = 3 ∨ i = 4 ∨ i = 5 ∨ i = 6 ∨ i = 7 := by omega
theorem FstB.num {w : World} {g L i : Nat} {N : Nat → Nat} (h : FstB w g L N) (hi : i < 8) : w.cell? ⟨g, 1 + i, none⟩ = some (.int .u32 (N i : Int)) := by
  rw [Blk.cell h]
  rcases lt8 hi with rfl | rfl | rfl | rfl | rfl | rfl | rfl | rfl <;> rfl
set_option maxRecDepth 20000 in
theorem get_ok (w : World) (t pm n : Nat) {P : Nat → List UInt8} {K L : Nat} {N : Nat → Nat} (h : Ld sv w t pm n P K L N) (i : Nat) (hi : i < 8) : Calls Tryz.prog 36 #[.pointer (some ⟨t, 0, none⟩), .int .i64 (i : Int)] w fun e w' => e = .returned (.tuple #[.int .u32 (N i : Int), .int .i64 0]) ∧ Below w.heap.size w w' := by
  have HF := hide (firstOf_e w _ _ 0 h.fo)
  have HI := hide (sizeF L N)
  have HSz := hide (size_fst L 0 N zN)
  have HOn := hide (fstL_one L N)
  have HFn := hide fst_new
  have HIs := hide (fun V => isNumber_e V (i : Int))
  have hn : isN (i : Int) = true := decide_eq_true (by omega)
  rw [hn] at HIs
  have l0 : (0 : Int) ≤ (i : Int) := by omega
  have l1 : (i : Int) < 8 := by omega
  have Hi := hide hi
  clear h hn hi
  go_enter Tryz.func36, Tryz.ntmps36
  go_wp2_with (first
    | (go_at_call 93; (with_reducible refine Calls.mono HF.out ?_); rintro e w4 ⟨rfl, hb⟩; have HB4 := hide (below_trans hb (below_alloc w4 (.cells #[.int .u32 0, .int .u32 0, .int .u32 0, .int .u32 0, .int .u32 0, .int .u32 0, .int .u32 0, .int .u32 0, .int .u32 0] 151))); have HF4 := hide (HFn.out w4); have HS4 := hide hb.size; clear hb)
    | ((with_reducible refine atSt 151 ?_); refine wp_storeB (c := (fstL L N).toArray) HI.out HSz.out HOn.out HF4.out _ _ (by rfl) (by rfl) (by rfl) (by rfl) ?_; intro W5 hb5 ho5; have c5 := FstB.num hb5 Hi.out; have HB5 := hide (below_only1 HB4.out ho5 HS4.out); clear hb5 ho5)
    | (go_at_call 94; (with_reducible refine Calls.mono (HIs.out _) ?_); rintro e w6 ⟨rfl, rfl⟩))
  go_ret2
  exact ⟨rfl, HB5.out⟩
set_option maxRecDepth 20000 in
theorem set_arg (w : World) (v : Option Addr) (h : ChK w v 0) (i x : Int) (hi : isN i = false) : Calls Tryz.prog 37 #[.pointer v, .int .i64 i, .int .u32 x] w fun e w' => e = .returned (.int .i64 2) ∧ Below w.heap.size w w' := by
  have HM := hide (smayChange_e w v 0 h h.ne2)
  have HIs := hide (fun V => isNumber_e V i)
  rw [hi] at HIs
  clear h hi
  go_enter Tryz.func37, Tryz.ntmps37
  go_wp2_with (first
    | (go_at_call 91; (with_reducible refine Calls.mono HM.out ?_); rintro e w4 ⟨rfl, hb⟩; have HB4 := hide hb; clear hb)
    | (go_at_call 94; (with_reducible refine Calls.mono (HIs.out _) ?_); rintro e w6 ⟨rfl, rfl⟩))
  go_ret
  exact ⟨rfl, HB4.out⟩
set_option maxRecDepth 20000 in
theorem set_bad (w : World) (v : Option Addr) (V : List Value) (h : ChK w v 0) (hf : FoK w v V 8) (i x : Int) (hi : isN i = true) : Calls Tryz.prog 37 #[.pointer v, .int .i64 i, .int .u32 x] w fun e w' => e = .returned (.int .i64 8) ∧ Below w.heap.size w w' := by
  have HM := hide (smayChange_e w v 0 h h.ne2)
  have HIs := hide (fun V => isNumber_e V i)
  rw [hi] at HIs
  have HF := hide (fun X (hb : Below w.heap.size w X) => firstOf_e X _ _ 8 (hf.later hb))
  have HV := hide (V_of hf)
  have HFn := hide fst_new
  clear h hi hf
  go_enter Tryz.func37, Tryz.ntmps37
  go_wp2_with (first
    | (go_at_call 91; (with_reducible refine Calls.mono HM.out ?_); rintro e w4 ⟨rfl, hb⟩; have HB4 := hide hb; clear hb)
    | (go_at_call 94; (with_reducible refine Calls.mono (HIs.out _) ?_); rintro e w6 ⟨rfl, rfl⟩)
    | (go_at_call 93; (with_reducible refine Calls.mono (HF.out _ HB4.out) ?_); rintro e w5 ⟨rfl, hb⟩; have HB5 := hide (below_trans (below_trans HB4.out hb) (below_alloc w5 (.cells #[.int .u32 0, .int .u32 0, .int .u32 0, .int .u32 0, .int .u32 0, .int .u32 0, .int .u32 0, .int .u32 0, .int .u32 0] 151))); have HF5 := hide (HFn.out w5); have HS5 := hide (below_trans HB4.out hb).size; clear hb)
    | ((with_reducible refine atSt 151 ?_); refine wp_storeB (c := V.toArray) HV.out.1 HV.out.2.1 HV.out.2.2 HF5.out _ _ (by rfl) (by rfl) (by rfl) (by rfl) ?_; intro W6 hb6 ho6; have HB6 := hide (below_only1 HB5.out ho6 HS5.out); clear hb6 ho6))
  go_ret
  exact ⟨rfl, HB6.out⟩
/-- A number is set. -/
def stM (N : Nat → Nat) (i x : Nat) : Nat → Nat := fun k => if k = i then x else N k
theorem FstB.setN {w : World} {g L i x : Nat} {N : Nat → Nat} (h : FstB w g L N) (hi : i < 8) : FstB (w.setCell ⟨g, 1 + i, none⟩ (.int .u32 (x : Int))) g L (stM N i x) := by
  have := Blk.set h (1 + i) (.int .u32 (x : Int))
  have e : (fstL L N).toArray.setIfInBounds (1 + i) (.int .u32 (x : Int)) = (fstL L (stM N i x)).toArray := by
    rcases lt8 hi with rfl | rfl | rfl | rfl | rfl | rfl | rfl | rfl <;> rfl
  rw [e] at this
  exact this
set_option maxRecDepth 20000 in
set_option maxHeartbeats 1000000 in
theorem set_ok (w : World) (t pm n : Nat) {P : Nat → List UInt8} {K L : Nat} {N : Nat → Nat} (h : Ld sv w t pm n P K L N) (hK : K ≤ 100000) (i x : Nat) (hi : i < 8) (hx : x < 4294967296) : Calls Tryz.prog 37 #[.pointer (some ⟨t, 0, none⟩), .int .i64 (i : Int), .int .u32 (x : Int)] w fun e w' => e = .returned (.int .i64 0) ∧ Tr sv w' t pm n (upP P 1 (firstL L (stM N i x))) (K + 1) true ∧ Only [t, pm] w w' := by
  have HM := hide (smayChange_e w _ 0 h.tr.chK h.tr.chK.ne2)
  have HIs := hide (fun V => isNumber_e V (i : Int))
  have hn : isN (i : Int) = true := decide_eq_true (by omega)
  rw [hn] at HIs
  have HF := hide (fun X (hb : Below w.heap.size w X) => firstOf_e X _ _ 0 (h.fo.later hb))
  have HI := hide (sizeF L N)
  have HI' := hide (sizeF L (stM N i x))
  have HSz := hide (size_fst L 0 N zN)
  have HOn := hide (fstL_one L N)
  have HFn := hide fst_new
  have hnm : ∀ k, stM N i x k < 4294967296 := fun k => by
    unfold stM
    split
    · exact hx
    · exact h.nm k
  have hone := h.one
  have HPu := hide (fun X (hb : Below w.heap.size w X) => (sput_e X _ L h.lk (stM N i x) hnm 0 _ (.inn (k := 1) (h.tr.later hb) (Nat.le_refl _) (by omega) (by omega) hK)).mono (fun e w' hh => (And.intro hh.1 (And.intro hh.2.1 (Only.after_below hb hh.2.2)) : e = .returned (.int .i64 0) ∧ Tr sv w' t pm (max n 1) (upP P 1 (firstL L (stM N i x))) (K + 1) true ∧ Only [t, pm] w w')))
  rw [show max n 1 = n by omega] at HPu
  have l0 : (0 : Int) ≤ (i : Int) := by omega
  have l1 : (i : Int) < 8 := by omega
  have Hi := hide hi
  clear h hn hi hnm hone hx
  go_enter Tryz.func37, Tryz.ntmps37
  go_wp2_with (first
    | (go_at_call 91; (with_reducible refine Calls.mono HM.out ?_); rintro e w4 ⟨rfl, hb⟩; have HB4 := hide hb; clear hb)
    | (go_at_call 94; (with_reducible refine Calls.mono (HIs.out _) ?_); rintro e w6 ⟨rfl, rfl⟩)
    | (go_at_call 93; (with_reducible refine Calls.mono (HF.out _ HB4.out) ?_); rintro e w5 ⟨rfl, hb⟩; have HB5 := hide (below_trans (below_trans HB4.out hb) (below_alloc w5 (.cells #[.int .u32 0, .int .u32 0, .int .u32 0, .int .u32 0, .int .u32 0, .int .u32 0, .int .u32 0, .int .u32 0, .int .u32 0] 151))); have HF5 := hide (HFn.out w5); have HS5 := hide (below_trans HB4.out hb).size; clear hb)
    | ((with_reducible refine atSt 151 ?_); refine wp_storeB (c := (fstL L N).toArray) HI.out HSz.out HOn.out HF5.out _ _ (by rfl) (by rfl) (by rfl) (by rfl) ?_; intro W6 hb6 ho6; have c6 := FstB.num hb6 Hi.out; have f6 := Blk.frozen hb6 (1 + i); have HF6 := hide (FstB.setN (x := x) hb6 Hi.out); have HB6 := hide ((below_only1 HB5.out ho6 HS5.out).setCell (p := ⟨w5.heap.size, 1 + i, none⟩) HS5.out (.int .u32 (x : Int))); clear hb6 ho6)
    | ((with_reducible refine atLd 151 ?_); refine wp_loadB (c := (fstL L (stM N i x)).toArray) HI'.out uF HF6.out _ (by rfl) (by rfl) (by rfl) ?_)
    | (go_at_call 92; (with_reducible refine Calls.mono (HPu.out _ HB6.out) ?_); rintro e w10 ⟨rfl, hr⟩; have HR := hide hr; clear hr))
  go_ret
  exact ⟨rfl, HR.out⟩
end Go.Proofs.YtenfjbcigkolaaaGreat

namespace Go.Proofs.YtenfjbcigkolaaaGreat
variable {sv : Value}
open Go.ChangeShapes Go.WideShapes Go.ChangeAt Go.RowKit Go.Maps
set_option linter.unusedVariables false

def spL (d : Bool) (c : Int) (f : Value) (N : Nat → Nat) : List Value := .bool d :: .int .i64 c :: f :: nmL N
theorem spL_len (d : Bool) (c : Int) (f : Value) (N : Nat → Nat) : (spL d c f N).length = 11 := rfl
def SpB (w : World) (b : Nat) (d : Bool) (c : Int) (f : Value) (N : Nat → Nat) : Prop := Blk w b (spL d c f N).toArray 66
theorem infoSp (d : Bool) (c : Int) (f : Value) (N : Nat → Nat) : (Tryz.prog.info? 66).map (·.size) = some (spL d c f N).toArray.size := by
  have : (Tryz.prog.info? 66).map (·.size) = some 11 := by kernel_rfl
  exact this
theorem uSp : ∃ d, Tryz.prog.underlying 66 = some d ∧ d.isRow = true := ⟨_, Tryz.underlying66, rfl⟩
theorem sp_one (d : Bool) (c : Int) (p : Option Addr) (l k : Nat) (N : Nat → Nat) : (spL d c (.slice p l k) N).toArray.all (·.oneCell') = true := all_oneCell_toArray (by
  intro v hv
  simp only [spL, nmL, List.mem_cons, List.mem_map] at hv
  rcases hv with rfl | rfl | rfl | ⟨i, _, rfl⟩ <;> rfl)
theorem sp_size (d d' : Bool) (c c' : Int) (f f' : Value) (N N' : Nat → Nat) : (spL d c f N).toArray.size = (spL d' c' f' N').toArray.size := rfl
theorem SpB.c0 {w : World} {b : Nat} {d : Bool} {c : Int} {f : Value} {N : Nat → Nat} (h : SpB w b d c f N) : w.cell? ⟨b, 0, none⟩ = some (.bool d) := Blk.cell h 0
theorem SpB.c1 {w : World} {b : Nat} {d : Bool} {c : Int} {f : Value} {N : Nat → Nat} (h : SpB w b d c f N) : w.cell? ⟨b, 1, none⟩ = some (.int .i64 c) := Blk.cell h 1
theorem SpB.c2 {w : World} {b : Nat} {d : Bool} {c : Int} {f : Value} {N : Nat → Nat} (h : SpB w b d c f N) : w.cell? ⟨b, 2, none⟩ = some f := Blk.cell h 2
theorem SpB.num {w : World} {b i : Nat} {d : Bool} {c : Int} {f : Value} {N : Nat → Nat} (h : SpB w b d c f N) (hi : i < 8) : w.cell? ⟨b, 3 + i, none⟩ = some (.int .u32 (N i : Int)) := by
  rw [Blk.cell h]
  rcases lt8 hi with rfl | rfl | rfl | rfl | rfl | rfl | rfl | rfl <;> rfl
theorem SpB.later {w w' : World} {b : Nat} {d : Bool} {c : Int} {f : Value} {N : Nat → Nat} (h : SpB w b d c f N) (hb : Below w.heap.size w w') : SpB w' b d c f N := Blk.later h hb
/-- A row of free pages as the document has it. -/
def FrP (w : World) (p : Option Addr) (cap : Nat) (G : List Nat) : Prop := G.length ≤ cap ∧ (p = none → G = [] ∧ cap = 0) ∧ (0 < G.length → ∃ b o, p = some ⟨b, o, none⟩ ∧ (∃ c, Blk w b c 3) ∧ ∀ (j x : Nat), G[j]? = some x → w.cell? ⟨b, o + j, none⟩ = some (.int .i64 (x : Int)))
theorem FrP.later {w w' : World} {p : Option Addr} {cap : Nat} {G : List Nat} (h : FrP w p cap G) (hb : Below w.heap.size w w') : FrP w' p cap G :=
  ⟨h.1, h.2.1, fun h0 => let ⟨b, o, e, ⟨c, hc⟩, g⟩ := h.2.2 h0; ⟨b, o, e, ⟨c, hc.later hb⟩, fun j x hj => cell_later1 hb (g j x hj)⟩⟩
theorem FrP.only {w w' : World} {p : Option Addr} {cap : Nat} {G : List Nat} (h : FrP w p cap G) {X : List Nat} (ho : Only X w w') (hX : ∀ b ∈ X, ∀ c, ¬ Blk w b c 3) : FrP w' p cap G :=
  ⟨h.1, h.2.1, fun h0 => by
    obtain ⟨b, o, e, ⟨c, hc⟩, g⟩ := h.2.2 h0
    have hc' := hc.only ho (fun hb => hX b hb c hc)
    exact ⟨b, o, e, ⟨c, hc'⟩, fun j x hj => by rw [hc'.cell]; have := g j x hj; rwa [hc.cell] at this⟩⟩
theorem zSp (w : World) : SpB (w.alloc (.cells #[.bool false, .int .i64 0, .slice none 0 0, .int .u32 0, .int .u32 0, .int .u32 0, .int .u32 0, .int .u32 0, .int .u32 0, .int .u32 0, .int .u32 0] 66)) w.heap.size false 0 (.slice none 0 0) zN := Blk.new w _ _
/-- A Space that comes back with two numbers. -/
theorem ret_sp3 {W : World} {g j k l : Nat} {t : TypeId} {c : Array Value} {v u : Value} (hi : (Tryz.prog.info? t).map (·.size) = some c.size) (hu : ∃ d, Tryz.prog.underlying t = some d ∧ d.isRow = true) {fn : Func} (hres : fn.results = #[.cell j t, .tmp k, .tmp l]) {tmps : Array Value} (ht : tmps.getD j undef = .pointer (some ⟨g, 0, none⟩)) (hv : tmps.getD k undef = v) (hw : tmps.getD l undef = u)
    (hg : Blk W g c t) {R : Ending → World → Prop} (h : R (.returned (.tuple #[.agg c, v, u])) W) : bodyPost Tryz.prog fn R Exit.ret { tmps := tmps, defers := [] } W := by
  obtain ⟨d, hd, hr⟩ := hu
  have hld := run_loadVar_mid (P := Tryz.prog) W g 0 t c.toList d hg.range hd hr (by simpa using hi)
  refine bodyPost_ret (v := .tuple #[.agg c, v, u]) ?_ rfl h
  have ht' : tmps[j]?.getD undef = .pointer (some ⟨g, 0, none⟩) := by simpa using ht
  have hv' : tmps[k]?.getD undef = v := by simpa using hv
  have hw' : tmps[l]?.getD undef = u := by simpa using hw
  simp [results, hres, ht', hv', hw', asAddr, hld]
set_option maxRecDepth 20000 in
theorem rhas_e (w : World) (d : Bool) (c : Int) (p : Option Addr) (cap : Nat) (G : List Nat) (N : Nat → Nat) (x : Int) (hf : FrP w p cap G) (hG : G.length ≤ 5000) : Calls Tryz.prog 40 #[.agg (spL d c (.slice p G.length cap) N).toArray, .int .i64 x] w fun e w' => e = .returned (.bool (decide (∃ g ∈ G, (g : Int) = x))) ∧ Below w.heap.size w w' := by
  have HB := hide (below_alloc w (.cells (spL d c (.slice p G.length cap) N).toArray 66))
  have k1 : SpB (w.alloc (.cells (spL d c (.slice p G.length cap) N).toArray 66)) w.heap.size d c (.slice p G.length cap) N := Blk.new _ _ _
  have c2 := k1.c2
  have HF := hide (hf.later HB.out)
  have HG := hide hG
  generalize hrr : decide (∃ g ∈ G, (g : Int) = x) = r
  have HRR := hide hrr
  clear k1 hf hG hrr
  go_enter Tryz.func40, Tryz.ntmps40
  go_wp2_with fail
  generalize w.alloc (.cells (spL d c (.slice p G.length cap) N).toArray 66) = W at HB c2 HF ⊢
  go_loopw [5] (fun jv wq => ∃ j : Nat, jv = .int .i64 (j : Int) ∧ j ≤ G.length ∧ (∀ g ∈ G.take j, (g : Int) ≠ x) ∧ wq = W) (fun jv _ => G.length - (intOf jv).toNat)
  case atStart => exact ⟨0, rfl, by omega, by simp, rfl⟩
  case round =>
    obtain ⟨j, rfl, hj, hno, rfl⟩ := hrel
    by_cases hjl : j < G.length
    · have m1 : (j : Int) < (G.length : Int) := by omega
      have m0 : (0 : Int) ≤ (j : Int) := by omega
      obtain ⟨b, o, rfl, _, hc⟩ := HF.out.2.2 (by omega)
      obtain ⟨y, hy⟩ : ∃ y, G[j]? = some y := ⟨G[j], List.getElem?_eq_getElem hjl⟩
      have cj := hc j y hy
      have hwj : IntKind.i64.wrap ((j : Int) + 1) = ((j + 1 : Nat) : Int) := by have := HG.out; rw [IntKind.wrap_i64]; omega
      by_cases he : (y : Int) = x
      · obtain rfl : r = true := by rw [← HRR.out]; exact decide_eq_true ⟨y, List.mem_of_getElem? hy, he⟩
        have heq : ((y : Int) == x) = true := by simpa using he
        clear hc hy hno he
        go_wp2
        go_ret
        exact ⟨rfl, HB.out⟩
      · have heq : ((y : Int) == x) = false := by simpa using he
        have HNo := hide hno
        have HY := hide hy
        clear hc hno hy
        go_wp2
        go_roundw
        case rel =>
          refine ⟨j + 1, rfl, by omega, fun g hg => ?_, by first | rfl | trivial⟩
          rw [List.take_add_one, HY.out] at hg
          rcases List.mem_append.1 hg with h | h
          · exact HNo.out g h
          · simp at h; subst h; exact he
        case measure => simp [intOf]; omega
    · have m1 : ¬ (j : Int) < (G.length : Int) := by omega
      obtain rfl : r = false := by
        rw [← HRR.out]
        refine decide_eq_false (fun hh => ?_)
        obtain ⟨g, hg, he⟩ := hh
        exact hno g (by rwa [List.take_of_length_le (by omega)]) he
      clear hno
      go_wp2
      go_ret
      exact ⟨rfl, HB.out⟩
end Go.Proofs.YtenfjbcigkolaaaGreat

namespace Go.Proofs.YtenfjbcigkolaaaGreat
variable {sv : Value}
open Go.ChangeShapes Go.WideShapes Go.ChangeAt Go.RowKit Go.Maps
set_option linter.unusedVariables false

/-- The two blocks that the document's functions begin with. -/
theorem two_sp (w : World) (d : Bool) (c : Int) (f : Value) (N : Nat → Nat) : ∃ W, W = (w.alloc (.cells (spL d c f N).toArray 66)).alloc (.cells #[.bool false, .int .i64 0, .slice none 0 0, .int .u32 0, .int .u32 0, .int .u32 0, .int .u32 0, .int .u32 0, .int .u32 0, .int .u32 0, .int .u32 0] 66) ∧ SpB W w.heap.size d c f N ∧ SpB W (w.heap.size + 1) false 0 (.slice none 0 0) zN ∧ Below w.heap.size w W := by
  refine ⟨_, rfl, Blk.later (Blk.new w _ _) (below_alloc _ _), ?_, below_trans (below_alloc _ _) (below_alloc _ _)⟩
  have := zSp (w.alloc (.cells (spL d c f N).toArray 66))
  rwa [show (w.alloc (.cells (spL d c f N).toArray 66)).heap.size = w.heap.size + 1 by simp] at this
theorem SpB.setF {w : World} {b : Nat} {d : Bool} {c : Int} {f : Value} {N : Nat → Nat} (h : SpB w b d c f N) (v : Value) : SpB (w.setCell ⟨b, 2, none⟩ v) b d c v N := Blk.set h 2 v
theorem SpB.setC {w : World} {b : Nat} {d : Bool} {c : Int} {f : Value} {N : Nat → Nat} (h : SpB w b d c f N) (k : Int) : SpB (w.setCell ⟨b, 1, none⟩ (.int .i64 k)) b d k f N := Blk.set h 1 _
theorem SpB.far {w : World} {b a o : Nat} {d : Bool} {c : Int} {f : Value} {N : Nat → Nat} (h : SpB w b d c f N) (hn : b ≠ a) (v : Value) : SpB (w.setCell ⟨a, o, none⟩ v) b d c f N := Blk.setOther h hn o v
set_option maxRecDepth 20000 in
theorem rtake_bad (w : World) (c : Int) (p : Option Addr) (l cap : Nat) (N : Nat → Nat) : Calls Tryz.prog 39 #[.agg (spL false c (.slice p l cap) N).toArray] w fun e w' => e = .returned (.tuple #[.agg (spL false c (.slice p l cap) N).toArray, .int .i64 0, .int .i64 8]) ∧ Below w.heap.size w w' := by
  obtain ⟨W, hW, k1, k2, hb⟩ := two_sp w false c (.slice p l cap) N
  have c0 := k1.c0
  have HI := hide (infoSp false c (.slice p l cap) N)
  have HSz := hide (sp_size false false c 0 (.slice p l cap) (.slice none 0 0) N zN)
  have HOn := hide (sp_one false c p l cap N)
  have HK1 := hide k1
  have HK2 := hide k2
  have HB := hide hb
  have HWn := hide (show w.heap.size ≤ w.heap.size + 1 by omega)
  clear k1 k2 hb
  go_enter Tryz.func39, Tryz.ntmps39
  go_upto_region 1 with fail
  rw [← hW]
  clear hW
  go_wp2_with (first
    | ((with_reducible refine atLd 66 ?_); refine wp_loadB (c := (spL false c (.slice p l cap) N).toArray) HI.out uSp HK1.out _ (by rfl) (by rfl) (by rfl) ?_)
    | ((with_reducible refine atSt 66 ?_); refine wp_storeB (c := (spL false c (.slice p l cap) N).toArray) HI.out HSz.out HOn.out HK2.out _ _ (by rfl) (by rfl) (by rfl) (by rfl) ?_; intro W5 hb5 ho5; have HF5 := hide hb5; have HB5 := hide (below_only1 HB.out ho5 HWn.out); clear hb5 ho5))
  refine ret_sp3 (c := (spL false c (.slice p l cap) N).toArray) HI.out uSp Tryz.results39 (by rfl) (by rfl) (by rfl) HF5.out ?_
  exact ⟨rfl, HB5.out⟩
set_option maxRecDepth 20000 in
set_option maxHeartbeats 1000000 in
theorem rtake_some (w : World) (c : Int) (b o cap : Nat) (g : Nat) (G : List Nat) (N : Nat → Nat) (hf : FrP w (some ⟨b, o, none⟩) cap (g :: G)) (hG : G.length ≤ 5000) : Calls Tryz.prog 39 #[.agg (spL true c (.slice (some ⟨b, o, none⟩) (G.length + 1) cap) N).toArray] w fun e w' => ∃ p', e = .returned (.tuple #[.agg (spL true c (.slice p' G.length (cap - 1)) N).toArray, .int .i64 (g : Int), .int .i64 0]) ∧ FrP w' p' (cap - 1) G ∧ Below w.heap.size w w' := by
  obtain ⟨W, hW, k1, k2, hb⟩ := two_sp w true c (.slice (some ⟨b, o, none⟩) (G.length + 1) cap) N
  obtain ⟨q, hq⟩ : ∃ q : Option Addr, q = (if cap = 1 then some ⟨b, o, none⟩ else some ⟨b, o + 1, none⟩) := ⟨_, rfl⟩
  have hcap : G.length + 1 ≤ cap := hf.1
  have hfr : FrP w q (cap - 1) G := by
    refine ⟨by omega, (fun hn => by rw [hq] at hn; split at hn <;> cases hn), fun h0 => ?_⟩
    obtain ⟨b', o', e, hc, hg⟩ := hf.2.2 (by simp)
    simp only [Option.some.injEq, Addr.mk.injEq] at e
    obtain ⟨rfl, rfl, _⟩ := e
    refine ⟨b, o + 1, by rw [hq, if_neg (by omega)], hc, fun j x hj => ?_⟩
    have := hg (j + 1) x (by simpa using hj)
    rw [show o + 1 + j = o + (j + 1) by omega]
    exact this
  have c0 := k1.c0
  have c2 := k1.c2
  have f2 := Blk.frozen k1 2
  have cg : W.cell? ⟨b, o, none⟩ = some (.int .i64 (g : Int)) := by
    obtain ⟨b', o', e, hc, hg⟩ := (hf.later hb).2.2 (by simp)
    simp only [Option.some.injEq, Addr.mk.injEq] at e
    obtain ⟨rfl, rfl, _⟩ := e
    exact hg 0 g rfl
  have HI := hide (infoSp true c (.slice q G.length (cap - 1)) N)
  have HSz := hide (sp_size true false c 0 (.slice q G.length (cap - 1)) (.slice none 0 0) N zN)
  have HOn := hide (sp_one true c q G.length (cap - 1) N)
  have HK1 := hide (k1.setF (.slice q G.length (cap - 1)))
  have HK2 := hide (k2.far (a := w.heap.size) (o := 2) (by omega) (.slice q G.length (cap - 1)))
  have HB := hide (hb.setCell (p := ⟨w.heap.size, 2, none⟩) (Nat.le_refl _) (.slice q G.length (cap - 1)))
  have HFr := hide hfr
  have HWn := hide (show w.heap.size ≤ w.heap.size + 1 by omega)
  have l1 : (0 : Int) < (G.length : Int) + 1 := by omega
  have l2 : (1 : Int) ≤ (G.length : Int) + 1 := by omega
  have l3 : (G.length : Int) + 1 ≤ (cap : Int) := by omega
  have l4 : (1 : Int) ≤ (cap : Int) := by omega
  clear k1 k2 hb hf hG hfr
  have HCp := hide hcap
  clear hcap
  go_enter Tryz.func39, Tryz.ntmps39
  go_upto_region 1 with fail
  rw [← hW]
  clear hW
  by_cases hc1 : cap = 1
  · rw [if_pos hc1] at hq
    subst hq
    subst hc1
    obtain rfl : G = [] := List.eq_nil_of_length_eq_zero (by have := HCp.out; omega)
    simp only [Nat.sub_self, List.length_nil] at HI HSz HOn HK1 HK2 HB HFr
    clear l1 l2 l3 l4
    go_wp2_with (first
      | ((with_reducible refine atLd 66 ?_); refine wp_loadB (c := (spL true c (.slice (some ⟨b, o, none⟩) 0 0) N).toArray) HI.out uSp HK1.out _ (by rfl) (by rfl) (by rfl) ?_)
      | ((with_reducible refine atSt 66 ?_); refine wp_storeB (c := (spL true c (.slice (some ⟨b, o, none⟩) 0 0) N).toArray) HI.out HSz.out HOn.out HK2.out _ _ (by rfl) (by rfl) (by rfl) (by rfl) ?_; intro W5 hb5 ho5; have HF5 := hide hb5; have HB5 := hide (below_only1 HB.out ho5 HWn.out); clear hb5 ho5))
    refine ret_sp3 (c := (spL true c (.slice (some ⟨b, o, none⟩) 0 0) N).toArray) HI.out uSp Tryz.results39 (by rfl) (by rfl) (by rfl) HF5.out ?_
    exact ⟨_, rfl, HFr.out.later HB5.out, HB5.out⟩
  · rw [if_neg hc1] at hq
    subst hq
    go_wp2_with (first
      | ((with_reducible refine atLd 66 ?_); refine wp_loadB (c := (spL true c (.slice (some ⟨b, o + 1, none⟩) G.length (cap - 1)) N).toArray) HI.out uSp HK1.out _ (by rfl) (by rfl) (by rfl) ?_)
      | ((with_reducible refine atSt 66 ?_); refine wp_storeB (c := (spL true c (.slice (some ⟨b, o + 1, none⟩) G.length (cap - 1)) N).toArray) HI.out HSz.out HOn.out HK2.out _ _ (by rfl) (by rfl) (by rfl) (by rfl) ?_; intro W5 hb5 ho5; have HF5 := hide hb5; have HB5 := hide (below_only1 HB.out ho5 HWn.out); clear hb5 ho5))
    refine ret_sp3 (c := (spL true c (.slice (some ⟨b, o + 1, none⟩) G.length (cap - 1)) N).toArray) HI.out uSp Tryz.results39 (by rfl) (by rfl) (by rfl) HF5.out ?_
    exact ⟨_, rfl, HFr.out.later HB5.out, HB5.out⟩
end Go.Proofs.YtenfjbcigkolaaaGreat
