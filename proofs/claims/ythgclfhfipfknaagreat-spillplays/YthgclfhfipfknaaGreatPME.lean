/- Package spill: a stub is read. -/
/- Package spill: the loop of find: its frame and its law. -/
import Derived.Test.YthgclfhfipfknaaGreatPMB
import Derived.Test.YthgclfhfipfknaaGreatPMD
namespace Go.Proofs.YthgclfhfipfknaaGreat
open Go.ChangeShapes Go.WideShapes Go.ChangeAt Go.RowKit Go.Maps
set_option linter.unusedVariables false

set_option maxRecDepth 20000 in
set_option maxHeartbeats 1000000 in
theorem read_ok (w : World) (s : ByteArray) (hs : s.size ≤ 140737488355328) (h : rdOk s) :
    Calls Tryz.prog 99 #[.string s] w fun e w' => e = .returned (.tuple #[.agg (stA (rdU s) (rdH s) (rdF s : Nat)), .int .i64 (rdSz s : Nat), .int .i64 0]) ∧ Below w.heap.size w w' := by
  have HV := hide (fun V => Rec.varint_walk s hs V)
  obtain ⟨v1, v2, v3⟩ := vrd_le s
  change Hid (∀ V, Calls Tryz.prog 183 #[.string s] V fun e w' => e = .returned (.tuple #[.int .u64 (rdU s : Int), .int .i64 (rdA s : Int), .int .i64 (if rdA s = 0 then 8 else 0)]) ∧ V = w') at HV
  have hE : rdEnd s = rdA s + min (rdU s) 40 := rfl
  have hH : rdH s = s.extract (rdA s) (rdEnd s) := rfl
  have hF : rdF s = nmF s.data.toList (rdEnd s) (rdSz s - rdEnd s) := rfl
  have hZ : rdSz s = if 40 < rdU s then rdEnd s + 4 else rdEnd s := rfl
  obtain ⟨ha, hu, hsz⟩ := h
  rw [hH, hF]
  generalize rdSz s = z at *
  generalize rdEnd s = d at *
  generalize rdA s = a at *
  generalize rdU s = u at *
  rw [if_neg ha] at HV
  have l1 : ¬ (4000 : Int) < (u : Int) := by omega
  have l4 : IntKind.i64.wrap (u : Int) = u := by rw [IntKind.wrap_i64]; omega
  have hmin : min (u : Int) 40 = ((d : Int) - a) := by omega
  have l3 : IntKind.i64.wrap ((a : Int) + ((d : Int) - a)) = (d : Int) := by rw [IntKind.wrap_i64]; omega
  have l8 : ¬ (s.size : Int) < (z : Int) := by omega
  have hz4 : z ≤ d + 4 ∧ d ≤ z := by split at hZ <;> omega
  have s1 : (0 : Int) ≤ (a : Int) := by omega
  have hd49 : d ≤ 49 := by omega
  have hzs : z ≤ s.size := hsz
  have s2 : (a : Int) ≤ (d : Int) := by omega
  have s3 : (d : Int) ≤ (s.size : Int) := by omega
  have HLp : Hid (∀ j, d + j < z → bits BinOp.or IntKind.i64 (IntKind.i64.wrap ((nmF s.data.toList d j : Int) * 256)) (IntKind.i64.wrap (byt s.data.toList (d + j) : Int)) = ((nmF s.data.toList d (j + 1) : Nat) : Int)) := fun j hj => by
    have h1 := nmF_lt s.data.toList d j
    have : 256 ^ j ≤ 256 ^ 3 := Nat.pow_le_pow_right (by omega) (by omega)
    exact or_i64 _ _ (byt_lt _ _) (by omega)
  by_cases h40 : 40 < u
  · rw [if_pos h40] at hZ
    have l2 : (40 : Int) < (u : Int) := by omega
    have l9 : IntKind.i64.wrap ((d : Int) + 4) = (z : Int) := by rw [IntKind.wrap_i64]; omega
    clear hsz hs hu ha v1 v2 v3 hH hF hE hZ
    go_enter Tryz.func99, Tryz.ntmps99
    go_wp2_with (first
      | (go_at_call 183; (with_reducible refine Calls.mono (HV.out _) ?_); rintro e w4 ⟨rfl, rfl⟩))
    go_loopw [11] (fun v wr => ∃ j V, d + j ≤ z ∧ v = .int .i64 ((d + j : Nat) : Int) ∧ Below w.heap.size w V ∧ V.heap.size = w.heap.size ∧ wr = ((V.alloc (.cells #[.int .i64 0, .string ⟨#[]⟩, .int .i64 0] 90)).alloc (.cells #[.int .i64 u, .string (s.extract a d), .int .i64 (nmF s.data.toList d j : Nat)] 90))) (fun v _ => z - (intOf v).toNat)
    case atStart => exact ⟨0, w, by omega, rfl, below_refl w, rfl, rfl⟩
    case round =>
      obtain ⟨j, V, hj, rfl, hbV, hV, rfl⟩ := hrel
      have HbV := hide hbV
      have HV' := hide hV
      rw [← hV]
      clear hbV hV
      by_cases hlt : d + j < z
      · have m1 : ((d + j : Nat) : Int) < (z : Int) := by omega
        have m2 : (0 : Int) ≤ (d : Int) + (j : Int) := by omega
        have m3 : (d : Int) + (j : Int) < (s.size : Int) := by omega
        have m5 : (0 : Int) ≤ ((d + j : Nat) : Int) := by omega
        have m6 : ((d + j : Nat) : Int) < (s.size : Int) := by omega
        have m4 : IntKind.i64.wrap (((d + j : Nat) : Int) + 1) = ((d + (j + 1) : Nat) : Int) := by rw [IntKind.wrap_i64]; omega
        have HL := hide (HLp.out j hlt)
        go_wp2
        go_region
        all_goals (try go_wp2)
        refine ⟨⟨j + 1, V.drew, by omega, congrArg (Value.int IntKind.i64) (by omega), (by rw [HV'.out]; exact ⟨HbV.out.os, HbV.out.tape, HbV.out.output, HbV.out.size, HbV.out.block⟩), rfl, ?_⟩, by simp only [intOf]; omega⟩
        have e := HL.out
        rw [← str_byt s (d + j) (by omega)] at e
        rw [← e]
        have e2 : ∀ (X : World) (o : Obj), (X.alloc o).drew = X.drew.alloc o := fun _ _ => rfl
        rw [e2, e2, IntWalk.i64_left, IntWalk.i64_left]
      · have m1 : ¬ ((d + j : Nat) : Int) < (z : Int) := by omega
        have hjz : z - d = j := by omega
        go_wp2
        go_returns
        exact ⟨rfl, below_trans HbV.out (below_trans (below_alloc _ _) (below_alloc _ _))⟩
  · rw [if_neg h40] at hZ
    have l2 : ¬ (40 : Int) < (u : Int) := by omega
    obtain rfl : z = d := hZ

    clear hsz hs hu ha v1 v2 v3 hH hF hE
    go_enter Tryz.func99, Tryz.ntmps99
    go_wp2_with (first
      | (go_at_call 183; (with_reducible refine Calls.mono (HV.out _) ?_); rintro e w4 ⟨rfl, rfl⟩))
    go_loopw [11] (fun v wr => v = .int .i64 (z : Int) ∧ wr = ((w.alloc (.cells #[.int .i64 0, .string ⟨#[]⟩, .int .i64 0] 90)).alloc (.cells #[.int .i64 u, .string (s.extract a z), .int .i64 0] 90))) (fun _ _ => 0)
    case atStart => exact ⟨rfl, rfl⟩
    case round =>
      obtain ⟨rfl, rfl⟩ := hrel
      go_wp2
      go_returns
      rw [Nat.sub_self]
      exact ⟨rfl, below_trans (below_alloc _ _) (below_alloc _ _)⟩
end Go.Proofs.YthgclfhfipfknaaGreat

namespace Go.Proofs.YthgclfhfipfknaaGreat
variable {sv : Value}
open Go.ChangeShapes Go.WideShapes Go.ChangeAt Go.RowKit Go.Maps
set_option linter.unusedVariables false

/-- What is found of a text's stub. -/
noncomputable def fdR (P : Nat → List UInt8) (m : Nat) (s : ByteArray) : Option (List UInt8 × List Nat) :=
  fnd P m 4000 (rdF s) (rdU s - (rdH s).size) (rdH s).data.toList []
def FdW (w : World) (z : Nat) (e : Ending) (w' : World) : Option (List UInt8 × List Nat) → Prop
  | none => e = .returned (.tuple #[.agg (kpA ⟨#[]⟩ 0 none 0 0), .int .i64 8]) ∧ Below w.heap.size w w'
  | some (d, G) => ∃ p c, e = .returned (.tuple #[.agg (kpA ⟨d.toArray⟩ (z : Int) p G.length c), .int .i64 0]) ∧ w'.ownsRow w.heap.size 3 1 (.slice p G.length c) G.length (inL G) ∧ Below w.heap.size w w'
theorem fi_a {w8 w9 : World} (l : Int) (hb : Below w8.drew.heap.size w8.drew w9) : Below w8.heap.size w8 (w9.alloc (.cells #[.int .i64 l] 3)) ∧ ∃ e, e = w9.heap.size ∧ w8.heap.size ≤ e ∧ Blk (w9.alloc (.cells #[.int .i64 l] 3)) e #[.int .i64 l] 3 :=
  ⟨below_trans (show Below w8.heap.size w8 w9 from ⟨hb.os, hb.tape, hb.output, hb.size, hb.block⟩) (below_alloc _ _), _, rfl, hb.size, Blk.new w9 _ _⟩
theorem fi_b {w8 w9 : World} (l : Int) (hb : Below (w8.drew.alloc (.cells #[.int .i64 0] 3)).heap.size (w8.drew.alloc (.cells #[.int .i64 0] 3)) w9) : Below w8.heap.size w8 (w9.setCell ⟨w8.heap.size, 0, none⟩ (.int .i64 l)) ∧ ∃ e, e = w8.heap.size ∧ w8.heap.size ≤ e ∧ Blk (w9.setCell ⟨w8.heap.size, 0, none⟩ (.int .i64 l)) e #[.int .i64 l] 3 := by
  have h := below_trans (below_alloc w8.drew (.cells #[.int .i64 0] 3)) hb
  exact ⟨Below.setCell (show Below w8.heap.size w8 w9 from ⟨h.os, h.tape, h.output, h.size, h.block⟩) (p := ⟨w8.heap.size, 0, none⟩) (Nat.le_refl _) _, _, rfl, Nat.le_refl _, Blk.set (Blk.later (Blk.new w8.drew #[Value.int .i64 0] 3) hb) 0 _⟩
theorem below_dr {B : Nat} {a w : World} (h : Below B a w) : Below B a w.drew := ⟨h.os, h.tape, h.output, h.size, h.block⟩
/-- The frame of find in its loop. -/
def fdA (t wz b e z : Nat) (u : Nat → Value) (v : Value) (nn : Nat) (ds : List Deferred) : Act := { tmps := #[.pointer (some ⟨t, 0, none⟩), u 1, u 2, u 3, .pointer (some ⟨wz, 0, none⟩), u 5, u 6, u 7, .int .i64 (z : Int), u 9, .pointer (some ⟨b, 0, none⟩), v, .int .i64 (nn : Int), .pointer (some ⟨e, 0, none⟩), u 14, u 15, u 16, u 17, u 18, u 19, u 20, u 21, u 22, u 23, u 24, u 25, u 26, u 27, u 28, u 29, u 30, u 31, u 32, u 33, u 34, u 35, u 36, u 37, u 38, u 39, u 40, u 41, u 42, u 43, u 44, u 45, u 46, u 47, u 48, u 49, u 50, u 51, u 52, u 53, u 54, u 55, u 56, u 57, u 58, u 59, u 60, u 61, u 62, u 63, u 64, u 65, u 66, u 67, u 68, u 69, u 70, u 71, u 72, u 73, u 74, u 75, u 76, u 77, u 78, u 79, u 80, u 81, u 82, u 83, u 84, u 85, u 86, u 87, u 88, u 89, u 90, u 91, u 92, u 93, u 94, u 95, u 96, u 97, u 98, u 99], defers := ds }
theorem fd_ex {t wz b e z nn : Nat} {v : Value} {ds : List Deferred} {a : Act} (h : a = fdA t wz b e z (fun i => a.tmps.getD i undef) v nn ds) : ∃ u, a = fdA t wz b e z u v nn ds := ⟨_, h⟩
/-- At the head of the loop. -/
structure FdH (w wr : World) (P : Nat → List UInt8) (m b e sz : Nat) (R : Option (List UInt8 × List Nat)) (left nn : Nat) (d : List UInt8) (v : Value) (G rs : List Nat) : Prop where
  st : FdI w wr b e sz left d v G rs
  lt : nn < 4294967296
  le : d.length + left ≤ 4000
  len : G.length + left ≤ 4000
  res : ∃ f, left ≤ f ∧ fnd P m f nn left d G = R
  dz : d = [] → rs = [] ∧ G = [] ∧ v = .slice none 0 0
/-- Ahead of the loop. -/
def FdM (w : World) (P : Nat → List UInt8) (m t b z : Nat) (R : Option (List UInt8 × List Nat)) (L F : Nat) (d : List UInt8) (x : Exit) (a : Act) (W : World) : Prop :=
  x = Exit.normal ∧ ∃ e sz, (∃ u, a = fdA t w.heap.size b e z u (.slice none 0 0) F (mks [])) ∧ FdH w W P m b e sz R L F d (.slice none 0 0) [] []
/-- Behind the loop. -/
structure FdE (w wr : World) (b e sz : Nat) (R : Option (List UInt8 × List Nat)) (left nn : Nat) (d : List UInt8) (v : Value) (G rs : List Nat) : Prop where
  st : FdI w wr b e sz left d v G rs
  lt : nn < 4294967296
  le : d.length + left ≤ 4000
  res : (left ≠ 0 ∧ R = none) ∨ (left = 0 ∧ R = if nn = 0 then some (d, G) else none)
  dz : left = 0 → d = [] → rs = [] ∧ G = [] ∧ v = .slice none 0 0
/-- How a round of the loop ends. -/
def FdQ (w : World) (P : Nat → List UInt8) (m t b e sz z : Nat) (R : Option (List UInt8 × List Nat)) (left : Nat) : Exit → Act → World → Prop
  | .normal, a, wr => ∃ left' nn d v G rs, left' < left ∧ FdH w wr P m b e sz R left' nn d v G rs ∧ ∃ u, a = fdA t w.heap.size b e z u v nn (mks rs)
  | .exit i, a, wr => i = 0 ∧ ∃ left' nn d v G rs, FdE w wr b e sz R left' nn d v G rs ∧ ∃ u, a = fdA t w.heap.size b e z u v nn (mks rs)
  | _, _, _ => False
theorem fd_loop {c : Code} {w W : World} {P : Nat → List UInt8} {m t b e sz z : Nat} {R : Option (List UInt8 × List Nat)} {left nn : Nat} {d : List UInt8} {v : Value} {G rs : List Nat} {a0 : Act} {K : Act → World → Prop} {Q2 : Exit → Act → World → Prop}
    (h0 : FdH w W P m b e sz R left nn d v G rs) (ha : a0 = fdA t w.heap.size b e z (fun i => a0.tmps.getD i undef) v nn (mks rs))
    (round : ∀ left nn d v G rs u wr, FdH w wr P m b e sz R left nn d v G rs → c.wp Tryz.prog (FdQ w P m t b e sz z R left) (fdA t w.heap.size b e z u v nn (mks rs)) wr)
    (tail : ∀ left nn d v G rs u wr, FdE w wr b e sz R left nn d v G rs → K (fdA t w.heap.size b e z u v nn (mks rs)) wr) : (Code.loop c).wp Tryz.prog (Exit.inBlock 0 (Exit.then K Q2)) a0 W := by
  refine wp_loop (fun a wr => ∃ left nn d v G rs, FdH w wr P m b e sz R left nn d v G rs ∧ ∃ u, a = fdA t w.heap.size b e z u v nn (mks rs)) (fun _ wr => cellN wr e) ⟨left, nn, d, v, G, rs, h0, fd_ex ha⟩ ?_
  rintro a wr ⟨left, nn, d, v, G, rs, hh, u, rfl⟩
  have cn : ∀ {wr : World} {left nn : Nat} {d : List UInt8} {v : Value} {G rs : List Nat}, FdH w wr P m b e sz R left nn d v G rs → cellN wr e = left := fun h => by
    unfold cellN
    rw [show _ = some (Value.int .i64 (_ : Int)) from h.st.lf.cell 0]
    simp [intOf]
  refine wp_mono (round left nn d v G rs u wr hh) ?_
  rintro x a' w' hq
  cases x with
  | normal =>
    obtain ⟨left', nn', d', v', G', rs', hl, hh', hu⟩ := hq
    exact ⟨⟨left', nn', d', v', G', rs', hh', hu⟩, by rw [cn hh, cn hh']; exact hl⟩
  | exit i =>
    obtain ⟨rfl, left', nn', d', v', G', rs', hh', u', rfl⟩ := hq
    exact tail left' nn' d' v' G' rs' u' w' hh'
  | ret => exact hq.elim
  | goto l => exact hq.elim
  | panic ch => exact hq.elim
  | outgrown => exact hq.elim
end Go.Proofs.YthgclfhfipfknaaGreat
