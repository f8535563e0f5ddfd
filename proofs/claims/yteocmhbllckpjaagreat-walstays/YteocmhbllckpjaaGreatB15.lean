/- How many pages there are at a mark. -/
/- How many pages there are at a mark that is none. -/
/- How many pages there are at mark 0. -/
import Derived.Test.YteocmhbllckpjaaGreatB12
namespace Go.Proofs.YteocmhbllckpjaaGreat
open Go.ChangeShapes Go.WideShapes Go.ChangeAt Go.RowKit
open Go.ChangeMaps (setBlock)
set_option linter.unusedVariables false

set_option maxHeartbeats 4000000 in
set_option maxRecDepth 20000 in
theorem count_at (w : World) (b : Nat) (t : List UInt8) (K : Nat) (hK : K ≤ 10000) (N E : Nat → Nat) (P : Nat → List UInt8) (h : Frs t K N E P) (k : Nat) (hk : k < K) :
    Calls Tryz.prog 44 #[lgV b t K, .int .i64 ((k : Int) + 1)] w fun x w' => x = .returned (.tuple #[.int .i64 (if E k = 0 then 0 else (E k : Int) - 1), .bool (decide (E k ≠ 0))]) ∧ w.grownBy w' none := by
  have hp := h.pg k hk
  have hE := h.en k hk
  have HF : Hid (∀ V, Calls Tryz.prog 86 #[.agg #[.pointer (some ⟨b, 0, none⟩), .string (bstr t), .int .i64 (K : Int)], .int .i64 ((k : Int) + 1)] V fun x w' => x = .returned (.agg (fcl (N k : Int) (P k) (E k) true).toArray) ∧ V.grownBy w' none) := fun V => by
    have := frame_w V b t K hK N E P h k hk
    rwa [show ((k + 1 : Nat) : Int) = (k : Int) + 1 by omega] at this
  have HEn := hideJ (fun V => ends_w V (N k : Int) (P k) (E k) true hp)
  have HI := hideJ (size167 (n := (N k : Int)) (p := P k) (e := E k) (pl := true) hp)
  have HA := hideJ (fcl_all (N k : Int) (P k) (E k) true)
  have HZ : Hid ((fcl (N k : Int) (P k) (E k) true).toArray.size = 259) := by show _ = _; rw [List.size_toArray, fcl_length _ _ _ hp]
  have HE257 : Hid ((fcl (N k : Int) (P k) (E k) true).toArray[257]? = some (.int .u32 (E k : Int))) := by show _ = _; simpa using fcl_end (N k : Int) (E k) true hp
  have hb0 : Blk (w.alloc (.cells #[.pointer (some ⟨b, 0, none⟩), .string (bstr t), .int .i64 (K : Int)] 93)) w.heap.size #[.pointer (some ⟨b, 0, none⟩), .string (bstr t), .int .i64 (K : Int)] 93 := alloc_new _ _
  have HB0 := hideJ hb0
  have cl2 := (hb0.cell 2).trans (show _ = some (Value.int .i64 (K : Int)) from rfl)
  have HG0 := hideJ (World.grownBy_alloc w (.cells #[.pointer (some ⟨b, 0, none⟩), .string (bstr t), .int .i64 (K : Int)] 93) none)
  have HI93 := hideJ info93
  have HNz := hideJ new167
  have l1 : ¬ (k : Int) + 1 = 0 := by omega
  have l2 : ¬ (k : Int) + 1 < 0 := by omega
  have l3 : ¬ (K : Int) < (k : Int) + 1 := by omega
  have l4 : (0 : Int) ≤ (k : Int) + 1 := by omega
  have l5 : (k : Int) + 1 ≤ (K : Int) := by omega
  have hw1 : IntKind.i64.wrap (E k : Int) = (E k : Int) := by rw [IntKind.wrap_i64]; omega
  have hw2 : E k ≠ 0 → IntKind.i64.wrap ((E k : Int) - 1) = (E k : Int) - 1 := fun _ => by rw [IntKind.wrap_i64]; omega
  rw [show lgV b t K = .agg #[.pointer (some ⟨b, 0, none⟩), .string (bstr t), .int .i64 (K : Int)] from rfl]
  generalize hC : (fcl (N k : Int) (P k) (E k) true).toArray = C at HF HEn HI HA HZ HE257
  clear hC hp hE h hk hb0
  generalize E k = e at *
  by_cases he : e = 0
  · subst he
    rw [show decide ((0 : Nat) ≠ 0) = false from rfl] at HEn ⊢
    go_enter Tryz.func44, Tryz.ntmps44
    go_wp2_with (first
      | ((with_reducible refine at93L ?_); refine wp_loadB (c := #[.pointer (some ⟨b, 0, none⟩), .string (bstr t), .int .i64 (K : Int)]) HI93.out u93 HB0.out _ (by rfl) (by rfl) (by rfl) ?_)
      | (go_at_call 86; (with_reducible refine Calls.mono (HF.out _) ?_); rintro x w3 ⟨rfl, hg⟩; have HG3 := hideJ (grown_trans' HG0.out hg); obtain ⟨Z, hZs, hZ⟩ := HNz.out w3; have HZ3 := hideJ (And.intro hZs hZ); clear hg hZs hZ)
      | ((with_reducible refine at167S ?_); refine wp_storeB (c := C) HI.out (by rw [HZ.out, HZ3.out.1]) HA.out HZ3.out.2 _ _ (by rfl) (by rfl) (by rfl) (by rfl) ?_; intro W4 hb4 ho4; have HB4 := hideJ hb4; have HG4 := hideJ (grown_only (grown_trans' HG3.out (World.grownBy_alloc _ _ _)) ho4 HG3.out.size); clear hb4 ho4)
      | ((with_reducible refine at167L ?_); refine wp_loadB (c := C) HI.out u167 HB4.out _ (by rfl) (by rfl) (by rfl) ?_)
      | (go_at_call 84; (with_reducible refine Calls.mono (HEn.out _) ?_); rintro x w5 ⟨rfl, hg⟩; have HG5 := hideJ (grown_trans' HG4.out hg); clear hg))
    go_ret2
    exact ⟨rfl, HG5.out⟩
  · have hw2' := hw2 he
    rw [show decide (e ≠ 0) = true by simp [he]] at HEn ⊢
    rw [if_neg he]
    clear hw2
    go_enter Tryz.func44, Tryz.ntmps44
    go_wp2_with (first
      | ((with_reducible refine at93L ?_); refine wp_loadB (c := #[.pointer (some ⟨b, 0, none⟩), .string (bstr t), .int .i64 (K : Int)]) HI93.out u93 HB0.out _ (by rfl) (by rfl) (by rfl) ?_)
      | (go_at_call 86; (with_reducible refine Calls.mono (HF.out _) ?_); rintro x w3 ⟨rfl, hg⟩; have HG3 := hideJ (grown_trans' HG0.out hg); obtain ⟨Z, hZs, hZ⟩ := HNz.out w3; have HZ3 := hideJ (And.intro hZs hZ); clear hg hZs hZ)
      | ((with_reducible refine at167S ?_); refine wp_storeB (c := C) HI.out (by rw [HZ.out, HZ3.out.1]) HA.out HZ3.out.2 _ _ (by rfl) (by rfl) (by rfl) (by rfl) ?_; intro W4 hb4 ho4; have HB4 := hideJ hb4; have HG4 := hideJ (grown_only (grown_trans' HG3.out (World.grownBy_alloc _ _ _)) ho4 HG3.out.size); clear hb4 ho4)
      | ((with_reducible refine at167L ?_); refine wp_loadB (c := C) HI.out u167 HB4.out _ (by rfl) (by rfl) (by rfl) ?_)
      | (go_at_call 84; (with_reducible refine Calls.mono (HEn.out _) ?_); rintro x w5 ⟨rfl, hg⟩; have HG5 := hideJ (grown_trans' HG4.out hg); have c257 := (Blk.cell (Blk.grown HB4.out hg) 257).trans HE257.out; clear hg))
    go_ret2
    exact ⟨rfl, HG5.out⟩
end Go.Proofs.YteocmhbllckpjaaGreat

namespace Go.Proofs.YteocmhbllckpjaaGreat
open Go.ChangeShapes Go.WideShapes Go.ChangeAt Go.RowKit
open Go.ChangeMaps (setBlock)
set_option linter.unusedVariables false

set_option maxHeartbeats 1000000 in
theorem count_none (w : World) (b : Nat) (t : List UInt8) (K : Nat) (m : Int) (hm : m < 0 ∨ (K : Int) < m) :
    Calls Tryz.prog 44 #[lgV b t K, .int .i64 m] w fun x w' => x = .returned (.tuple #[.int .i64 0, .bool false]) ∧ w.grownBy w' none := by
  have hb0 : Blk (w.alloc (.cells #[.pointer (some ⟨b, 0, none⟩), .string (bstr t), .int .i64 (K : Int)] 93)) w.heap.size #[.pointer (some ⟨b, 0, none⟩), .string (bstr t), .int .i64 (K : Int)] 93 := alloc_new _ _
  have cl2 := (hb0.cell 2).trans (show _ = some (Value.int .i64 (K : Int)) from rfl)
  have HG0 := hideJ (World.grownBy_alloc w (.cells #[.pointer (some ⟨b, 0, none⟩), .string (bstr t), .int .i64 (K : Int)] 93) none)
  rw [show lgV b t K = .agg #[.pointer (some ⟨b, 0, none⟩), .string (bstr t), .int .i64 (K : Int)] from rfl]
  have l1 : ¬ m = 0 := by omega
  clear hb0
  rcases hm with hm | hm
  · go_enter Tryz.func44, Tryz.ntmps44
    go_wp2
    go_ret2
    exact ⟨rfl, HG0.out⟩
  · have l2 : ¬ m < 0 := by omega
    go_enter Tryz.func44, Tryz.ntmps44
    go_wp2
    go_ret2
    exact ⟨rfl, HG0.out⟩
end Go.Proofs.YteocmhbllckpjaaGreat

namespace Go.Proofs.YteocmhbllckpjaaGreat
open Go.ChangeShapes Go.WideShapes Go.ChangeAt Go.RowKit
open Go.ChangeMaps (setBlock)
set_option linter.unusedVariables false

set_option maxRecDepth 20000 in
theorem count_j (w : World) (base b : Nat) (D : DS) (who : Nat → Nat) (R : Rep w base b D who) {r : Int} {i : Nat} (h : JI r D i) :
    Calls Tryz.prog 85 #[.pointer (some ⟨b, 0, none⟩)] w fun e w' => e = .returned (.int .i64 (((seenOf D nmD).length / 256 : Nat) : Int)) ∧ w.grownBy w' none := by
  have HL : Hid (Calls Tryz.prog 120 #[.pointer (some ⟨b, 0, none⟩), .string nmD] w fun e w' => e = .returned (.int .i64 ((seenOf D nmD).length : Nat)) ∧ w.grownBy w' none) := by
    have := len_up w base b D who R h.down nmD
    rw [← h.fl] at this
    exact this
  have hl := h.len nmD
  generalize (seenOf D nmD).length = n at HL hl ⊢
  have HLe := hideJ hl
  have e1 : (n : Int).tdiv 256 = ((n / 256 : Nat) : Int) := by rw [Int.tdiv_eq_ediv_of_nonneg (by omega)]; omega
  have e2 : IntKind.i64.wrap ((n / 256 : Nat) : Int) = ((n / 256 : Nat) : Int) := by rw [IntKind.wrap_i64]; omega
  clear R h hl
  go_enter Tryz.func85, Tryz.ntmps85
  go_wp2_with (go_at_call 120; (with_reducible refine Calls.mono HL.out ?_); rintro e w4 ⟨rfl, hg⟩; have HG := hideJ hg; clear hg)
  go_ret
  refine ⟨?_, HG.out⟩
  have e3 : wrap64 ((n : Int) / 256) = ((n / 256 : Nat) : Int) := by
    unfold wrap64
    have := HLe.out
    omega
  simpa using e3
def tailS (m old : Nat) : Nat → Stp
  | 0 => .sync nmJ
  | 1 => .put nmJ 0 (bstr (sealB m old 0 0))
  | _ => .sync nmJ

set_option maxHeartbeats 1000000 in
theorem count_zero (w : World) (base b : Nat) (D : DS) (who : Nat → Nat) (R : Rep w base b D who) {r : Int} {i : Nat} (h : JI r D i) (t : List UInt8) (K : Nat) :
    Calls Tryz.prog 44 #[lgV b t K, .int .i64 0] w fun x w' => x = .returned (.tuple #[.int .i64 (((seenOf D nmD).length / 256 : Nat) : Int), .bool true]) ∧ w.grownBy w' none := by
  have hb0 : Blk (w.alloc (.cells #[.pointer (some ⟨b, 0, none⟩), .string (bstr t), .int .i64 (K : Int)] 93)) w.heap.size #[.pointer (some ⟨b, 0, none⟩), .string (bstr t), .int .i64 (K : Int)] 93 := alloc_new _ _
  have cl0 := (hb0.cell 0).trans (show _ = some (Value.pointer (some ⟨b, 0, none⟩)) from rfl)
  have hg0 := World.grownBy_alloc w (.cells #[.pointer (some ⟨b, 0, none⟩), .string (bstr t), .int .i64 (K : Int)] 93) none
  have HC := hideJ (count_j _ base b D who (R.keep hg0) h)
  have HG0 := hideJ hg0
  rw [show lgV b t K = .agg #[.pointer (some ⟨b, 0, none⟩), .string (bstr t), .int .i64 (K : Int)] from rfl]
  generalize (((seenOf D nmD).length / 256 : Nat) : Int) = q at HC ⊢
  clear hb0 hg0 R h
  go_enter Tryz.func44, Tryz.ntmps44
  go_wp2_with (go_at_call 85; (with_reducible refine Calls.mono HC.out ?_); rintro e w4 ⟨rfl, hg⟩; have HG := hideJ (grown_trans' HG0.out hg); clear hg)
  go_ret2
  exact ⟨rfl, HG.out⟩

end Go.Proofs.YteocmhbllckpjaaGreat
