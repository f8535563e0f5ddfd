/- Frames of the log: numbers laid; whether one may be. -/
import Derived.Test.YteocmhbllckpjaaGreatB1
import Derived.Test.YteocmhbllckpjaaGreatAJE
namespace Go.Proofs.YteocmhbllckpjaaGreat
open Go.ChangeShapes Go.WideShapes Go.ChangeAt Go.RowKit
open Go.ChangeMaps (setBlock)
set_option linter.unusedVariables false

theorem u8_3m (n : Nat) : (n : Int) / 256 / 256 / 256 % 256 = ((UInt8.ofNat (n / 16777216)).toNat : Int) := by
  have : (UInt8.ofNat (n / 16777216)).toNat = n / 16777216 % 256 := UInt8.toNat_ofNat'
  omega
theorem word_blk {W : World} {g n o : Nat} {l : List UInt8} {t : TypeId} (hb : Blk W g (bcs l).toArray t) (hn : n < 4294967296) (hcs : o + 4 ≤ l.length) :
    Blk ((((W.setCell ⟨g, o + 3, none⟩ (.int .u8 ((n : Int) % 256))).setCell ⟨g, o + 2, none⟩ (.int .u8 ((n : Int) / 256 % 256))).setCell ⟨g, o + 1, none⟩ (.int .u8 ((n : Int) / 256 / 256 % 256))).setCell ⟨g, o, none⟩ (.int .u8 ((n : Int) / 256 / 256 / 256 % 256))) g (bcs (splice l o (be4 n))).toArray t ∧
    Only [g] W ((((W.setCell ⟨g, o + 3, none⟩ (.int .u8 ((n : Int) % 256))).setCell ⟨g, o + 2, none⟩ (.int .u8 ((n : Int) / 256 % 256))).setCell ⟨g, o + 1, none⟩ (.int .u8 ((n : Int) / 256 / 256 % 256))).setCell ⟨g, o, none⟩ (.int .u8 ((n : Int) / 256 / 256 / 256 % 256))) := by
  refine ⟨?_, (((onlyAt W g (o + 3) _).trans (onlyAt _ g (o + 2) _)).trans (onlyAt _ g (o + 1) _)).trans (onlyAt _ g o _)⟩
  have h := (((hb.set (o + 3) (.int .u8 ((n : Int) % 256))).set (o + 2) (.int .u8 ((n : Int) / 256 % 256))).set (o + 1) (.int .u8 ((n : Int) / 256 / 256 % 256))).set o (.int .u8 ((n : Int) / 256 / 256 / 256 % 256))
  have e : ((((bcs l).toArray.setIfInBounds (o + 3) (.int .u8 ((n : Int) % 256))).setIfInBounds (o + 2) (.int .u8 ((n : Int) / 256 % 256))).setIfInBounds (o + 1) (.int .u8 ((n : Int) / 256 / 256 % 256))).setIfInBounds o (.int .u8 ((n : Int) / 256 / 256 / 256 % 256)) = (bcs (splice l o (be4 n))).toArray := by
    rw [u8_0, u8_1, u8_2, u8_3m n]
    simp only [List.setIfInBounds_toArray]
    have := splice_four (bcs l) o (Value.int .u8 ((UInt8.ofNat (n / 16777216)).toNat : Int)) (Value.int .u8 ((UInt8.ofNat (n / 65536)).toNat : Int)) (Value.int .u8 ((UInt8.ofNat (n / 256)).toNat : Int)) (Value.int .u8 ((UInt8.ofNat n).toNat : Int)) (by rw [length_bcs]; exact hcs)
    rw [bcs_splice]
    rw [this]
    rfl
  rw [e] at h
  exact h

set_option maxHeartbeats 2000000 in
theorem layNumber_w (W : World) (g o m c n : Nat) (z : List UInt8) (t : TypeId) (hb : Blk W g (bcs z).toArray t) (hn : n < 4294967296) (hz : o + 4 ≤ z.length) (hm : 4 ≤ m) :
    Calls Tryz.prog 125 #[.slice (some ⟨g, o, none⟩) m c, .int .u32 (n : Int)] W fun e W' => (∃ v, e = .returned v) ∧ Blk W' g (bcs (splice z o (be4 n))).toArray t ∧ Only [g] W W' := by
  have HWb := hideJ (word_blk hb hn hz)
  have hc : ∀ j, j < z.length → ∃ v, W.cell? ⟨g, j, none⟩ = some v := fun j hj => by
    rw [hb.cell]
    exact ⟨_, by rw [List.getElem?_toArray, List.getElem?_eq_getElem (by rw [length_bcs]; exact hj)]⟩
  obtain ⟨v0, c0⟩ := hc o (by omega)
  obtain ⟨v1, c1⟩ := hc (o + 1) (by omega)
  obtain ⟨v2, c2⟩ := hc (o + 2) (by omega)
  obtain ⟨v3, c3⟩ := hc (o + 3) (by omega)
  have f0 := hb.frozen o
  have f1 := hb.frozen (o + 1)
  have f2 := hb.frozen (o + 2)
  have f3 := hb.frozen (o + 3)
  have l0 : (0 : Int) < (m : Int) := by omega
  have l1 : (1 : Int) < (m : Int) := by omega
  have l2 : (2 : Int) < (m : Int) := by omega
  have l3 : (3 : Int) < (m : Int) := by omega
  clear hc hb hn
  go_enter Tryz.func125, Tryz.ntmps125
  go_wp2
  refine wp_loop_rounds 5 ?_
  rw [rounds_succ]
  go_wp2
  rw [rounds_succ]
  go_wp2
  rw [rounds_succ]
  go_wp2
  rw [rounds_succ]
  go_wp2
  rw [rounds_succ]
  go_wp2
  go_end0
  exact ⟨⟨_, rfl⟩, HWb.out⟩

set_option maxHeartbeats 1000000 in
theorem isZeros_w (w : World) (n : Nat) (hn : n ≤ 1000) : Calls Tryz.prog 139 #[.string (bstr (List.replicate n 0))] w fun e w' => e = .returned (.bool true) ∧ w = w' := by
  have hs : (bstr (List.replicate n 0)).size = n := by simp [bstr, ByteArray.size]
  obtain ⟨s, hS⟩ : ∃ s, s = bstr (List.replicate n 0) := ⟨_, rfl⟩
  have hb : ∀ j (h : j < s.size), ((s[j]'h).toNat : Int) = 0 := fun j h => by
    subst hS
    simp [bstr, ByteArray.getElem_eq_getElem_data]
  rw [← hS] at hs ⊢
  subst hs
  have HB := hideJ hb
  have HN := hideJ hn
  clear hb hS hn
  go_enter Tryz.func139, Tryz.ntmps139
  go_wp2
  go_loopw [6] (fun iv wr => ∃ k : Nat, k ≤ s.size ∧ iv = .int .i64 (k : Int) ∧ wr = w) (fun iv _ => s.size - (intOf iv).toNat)
  case atStart => exact ⟨0, Nat.zero_le _, rfl, rfl⟩
  case round =>
    obtain ⟨k, hk, rfl, rfl⟩ := hrel
    by_cases hlt : k < s.size
    · have l1 : (k : Int) < (s.size : Int) := by omega
      have l0 : (0 : Int) ≤ (k : Int) := by omega
      have hw1 : IntKind.i64.wrap ((k : Int) + 1) = (k : Int) + 1 := by have := HN.out; rw [IntKind.wrap_i64]; omega
      have hbk := HB.out k
      go_wp2
      refine ⟨⟨k + 1, hlt, rfl, trivial⟩, ?_⟩
      simp only [intOf]; omega
    · obtain rfl : k = s.size := by omega
      go_wp2
      go_ret
      exact ⟨rfl, rfl⟩
end Go.Proofs.YteocmhbllckpjaaGreat
