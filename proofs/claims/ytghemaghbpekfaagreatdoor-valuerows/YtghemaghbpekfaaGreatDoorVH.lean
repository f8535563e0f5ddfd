/- hex, unhex: the loops. -/
import Derived.Test.YtghemaghbpekfaaGreatDoorVM
import Derived.Deep.AppendLies
import Derived.Laws.IdiomStrings
import Derived.Lib.BufferRead
namespace Go.Proofs.YtghemaghbpekfaaGreatDoor
open Go.ChangeShapes Go.WideShapes Go.ChangeAt Go.RowKit
set_option linter.unusedVariables false

/-- Bytes as cells. -/
def bcs (l : List UInt8) : List Value := l.map fun b => .int .u8 (b.toNat : Int)
theorem length_bcs (l : List UInt8) : (bcs l).length = l.length := by simp [bcs]
theorem bcs_append (l r : List UInt8) : bcs (l ++ r) = bcs l ++ bcs r := by simp [bcs]
abbrev OwnB (w : World) (base : Nat) (v : Value) (l : List UInt8) : Prop := w.ownsRow base 5 1 v l.length (bcs l)
theorem info5' : (Tryz.prog.info? 5).map (fun i => (i.zero, i.size, i.bytes)) = some (some (.int .u8 0), 1, 1) := by kernel_rfl

def dig16B : ByteArray := ⟨#[48, 49, 50, 51, 52, 53, 54, 55, 56, 57, 97, 98, 99, 100, 101, 102]⟩
theorem dig_at : ∀ a : Fin 16, (dig16B[a.val]'(by have := a.isLt; exact this)).toNat = (hexd a.val).toNat := by decide +kernel
theorem and15 : ∀ q : Fin 256, bits BinOp.and IntKind.u8 (q.val : Int) 15 = ((q.val % 16 : Nat) : Int) := by decide +kernel
theorem hexs_snoc (l : List UInt8) (c : UInt8) : hexs (l ++ [c]) = hexs l ++ [hexd (c.toNat / 16), hexd (c.toNat % 16)] := by
  induction l with
  | nil => rfl
  | cons a r ih => simp [hexs, ih]
theorem take_next (t : ByteArray) (k : Nat) (h : k < t.size) : t.data.toList.take (k + 1) = t.data.toList.take k ++ [t[k]'h] := by
  rw [List.take_add_one]
  have : t.data.toList[k]? = some (t[k]'h) := by
    rw [Array.getElem?_toList]
    exact Array.getElem?_eq_getElem _
  rw [this]; rfl

theorem below_row {B : Nat} {w w1 w2 : World} {v : Value} {n : Nat} {xs : List Value} (h : Below B w w1) (ho : w1.ownsRow B 5 1 v n xs) (hB : B ≤ w1.heap.size) (hg : w1.grownBy w2 v.ownBlock) : Below B w w2 := by
  refine h.grown hg hB ?_
  intro k hk
  rcases ho.2 with ⟨rfl, _⟩ | ⟨g, cap, cur, rfl, hb, _⟩
  · cases hk
  · cases hk; exact hb

theorem own_step {w2 : World} {base g cap : Nat} {l l' d : List UInt8} (h : w2.ownsRow base 5 1 (.slice (some ⟨g, 0, none⟩) (l.length + d.length) cap) (l.length + d.length) (bcs l ++ bcs d)) (e : l' = l ++ d) :
    OwnB w2 base (.slice (some ⟨g, 0, none⟩) (l.length + d.length) cap) l' := by
  subst e
  unfold OwnB
  rw [bcs_append, List.length_append]
  exact h

theorem conv_own {w : World} {base : Nat} {v : Value} {l : List UInt8} (h : OwnB w base v l) : (convert 53 9 v).run Tryz.prog w = .ok (.string ⟨l.toArray⟩) w := by
  rcases h.2 with ⟨rfl, hn⟩ | ⟨g, cap, cur, rfl, hb, hg, hnc, hcm, hcs, htake⟩
  · obtain rfl : l = [] := List.eq_nil_of_length_eq_zero hn
    exact Lib.run_convert_nil_bytes w _ _ 5 0 Tryz.underlying53 Tryz.underlying5 Tryz.underlying9
  · refine run_convert_bytes_back w _ _ 5 ⟨g, 0, none⟩ cap l Tryz.underlying53 Tryz.underlying5 Tryz.underlying9 ?_
    intro j hj
    exact h.cells (g := g) rfl j _ (by simp [bcs, hj])

set_option maxHeartbeats 1000000 in
set_option maxRecDepth 10000 in
theorem hex_walk (t : ByteArray) (ht : t.size ≤ 400) (w : World) : Calls Tryz.prog 41 #[.string t] w fun e w' => e = .returned (.string ⟨(hexs t.data.toList).toArray⟩) ∧ Below w.heap.size w w' := by
  obtain ⟨i0, hi0, hz0, hz1, hz2⟩ := info_parts info5'
  have hM := fun (w : World) => run_make_own (P := Tryz.prog) w w.heap.size 53 5 i0 (.int .u8 0) 1 Tryz.underlying53 hi0 hz0 hz1 .i64 .i64 (2 * t.size) (by rw [hz2]; omega) (by unfold maxLen; omega) (Nat.le_refl _)
  have hmul : IntKind.i64.wrap (2 * (t.size : Int)) = ((2 * t.size : Nat) : Int) := by rw [IntKind.wrap_i64]; omega
  obtain ⟨w1, hr1, ho1, hg1⟩ := hM w
  have hr1' := hr1
  rw [show ((2 * t.size : Nat) : Int) = 2 * (t.size : Int) by simp] at hr1'
  go_enter Tryz.func41, Tryz.ntmps41
  go_wp2
  go_loopw [3, 11] (fun v i wr => ∃ k : Nat, k ≤ t.size ∧ i = .int .i64 k ∧ OwnB wr w.heap.size v (hexs (t.data.toList.take k)) ∧ Below w.heap.size w wr) (fun _ i _ => t.size - (intOf i).toNat)
  case atStart => exact ⟨0, Nat.zero_le _, rfl, ho1, (Below.refl _ _).grown (row := none) hg1 (Nat.le_refl _) (by simp)⟩
  case round =>
    obtain ⟨k, hk, rfl, hown, hbel⟩ := hrel
    by_cases hlt : k < t.size
    · have l1 : (k : Int) < (t.size : Int) := by omega
      have l0 : (0 : Int) ≤ (k : Int) := by omega
      obtain ⟨q, hq⟩ : ∃ q : Nat, (t[k]'hlt).toNat = q := ⟨_, rfl⟩
      have hq256 : q < 256 := by rw [← hq]; exact UInt8.toNat_lt _
      have hb : ∀ (h : k < t.size), ((t[k]'h).toNat : Int) = (q : Int) := fun h => by rw [hq]
      have q0 : (0 : Int) ≤ (q : Int) := by omega
      have q1 : (q : Int) < 256 := by omega
      obtain ⟨a, ha⟩ : ∃ a : Nat, q / 16 = a := ⟨_, rfl⟩
      obtain ⟨b, hbb⟩ : ∃ b : Nat, q % 16 = b := ⟨_, rfl⟩
      have hA : (q : Int) / 16 = (a : Int) := by omega
      have hB : bits BinOp.and IntKind.u8 (q : Int) 15 = (b : Int) := by rw [and15 ⟨q, hq256⟩]; simp [hbb]
      have a0 : (0 : Int) ≤ (a : Int) := by omega
      have a1 : (a : Int) < 16 := by omega
      have b0 : (0 : Int) ≤ (b : Int) := by omega
      have b1 : (b : Int) < 16 := by omega
      have ha16 : a < 16 := by omega
      have hb16 : b < 16 := by omega
      obtain ⟨x, hx⟩ : ∃ x : UInt8, hexd a = x := ⟨_, rfl⟩
      obtain ⟨y, hy⟩ : ∃ y : UInt8, hexd b = y := ⟨_, rfl⟩
      have hX : ∀ (h : a < 16), (((⟨#[48, 49, 50, 51, 52, 53, 54, 55, 56, 57, 97, 98, 99, 100, 101, 102]⟩ : ByteArray)[a]'h).toNat : Int) = (x.toNat : Int) := fun h => by rw [← hx]; exact congrArg Int.ofNat (dig_at ⟨a, ha16⟩)
      have hY : ∀ (h : b < 16), (((⟨#[48, 49, 50, 51, 52, 53, 54, 55, 56, 57, 97, 98, 99, 100, 101, 102]⟩ : ByteArray)[b]'h).toNat : Int) = (y.toNat : Int) := fun h => by rw [← hy]; exact congrArg Int.ofNat (dig_at ⟨b, hb16⟩)
      have hlen : (hexs (t.data.toList.take k)).length = 2 * k := by
        have h1 : t.data.toList.length = t.size := by simp
        rw [hexs_length, List.length_take, h1]
        omega
      have HL : Hid ((hexs (t.data.toList.take k)).length = 2 * k) := hlen
      have hwsz := hbel.size
      have HQ : Hid ((t[k]'hlt).toNat = q) := hq
      have HAA : Hid (q / 16 = a ∧ q % 16 = b ∧ hexd a = x ∧ hexd b = y) := ⟨ha, hbb, hx, hy⟩
      have HO : Hid (OwnB wr w.heap.size u3 (hexs (t.data.toList.take k))) := hown
      have n1 : (hexs (t.data.toList.take k)).length + 2 ≤ maxLen := by rw [hlen]; unfold maxLen; omega
      have n2 : ((hexs (t.data.toList.take k)).length + 2) * 1 ≤ 140737488355328 := by rw [hlen]; omega
      have N1 : Hid ((hexs (t.data.toList.take k)).length + 2 ≤ maxLen) := n1
      have N2 : Hid (((hexs (t.data.toList.take k)).length + 2) * 1 ≤ 140737488355328) := n2
      have HBL : Hid (Below w.heap.size w wr) := hbel
      clear hq ha hbb hx hy hown hlen n1 n2 hbel hM hr1 hr1' ho1 hg1
      go_wp2_with fail
      go_region_held3 (fun _ => True) (trivial) ((refine step_append_lies _ (by rfl) _ _ _ (by rfl) w.heap.size 5 i0 (.int .u8 0) 1 1 Tryz.underlying53 hi0 hz0 hz1 hz2 rfl (by omega) u3 _ _ (by rfl) ((HO.out.alloc _).drew) ⟨wr.heap.size, 0, none⟩ 2 2 [.int .u8 (x.toNat : Int), .int .u8 (y.toNat : Int)] (by rfl) (by rfl) (World.news_of_block (cs := #[.int .u8 (x.toNat : Int), .int .u8 (y.toNat : Int)]) (t := 5) (fr := (0, 0)) (heap_alloc_new wr _)) (by simp [Value.oneCell']) (by omega) N1.out N2.out (by simp; omega) (wr.heap.size + 1) (by simp) ?_; intro gg cap w2 hown2 hgrow hat hlt2))
      all_goals
        go_wp2
        go_roundw
        case rel =>
          obtain ⟨e1, e2, e3, e4⟩ := HAA.out
          refine ⟨k + 1, by omega, by simp, own_step (d := [x, y]) hown2 ?_, below_row ((HBL.out.alloc hwsz _).drew) ((HO.out.alloc _).drew) (by simp; omega) hgrow⟩
          rw [take_next t k hlt, hexs_snoc, HQ.out, e1, e2, e3, e4]
        case measure => simp [intOf]; omega
    · have hkt : k = t.size := by omega
      subst hkt
      have l1 : ¬ ((t.size : Int) < (t.size : Int)) := by omega
      have hall : t.data.toList.take t.size = t.data.toList := List.take_of_length_le (by simp)
      rw [hall] at hown
      have hcv := conv_own hown
      clear hown hM hr1 hr1' ho1 hg1
      have HBL : Hid (Below w.heap.size w wr) := hbel
      clear hbel
      go_wp2
      go_ret
      exact ⟨rfl, HBL.out⟩
end Go.Proofs.YtghemaghbpekfaaGreatDoor
