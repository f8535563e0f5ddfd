/- Bytes that a call appends. -/
/- The document's Fold. -/
import Derived.Test.YtoekdeoekcmpgaaGreatDoorVM
import Derived.Test.YtoekdeoekcmpgaaGreatDoorPC
import Derived.Deep.AppendLies
import Derived.Laws.IdiomStrings
import Derived.Lib.BufferRead
namespace Go.Proofs.YtoekdeoekcmpgaaGreatDoor
open Go.ChangeShapes Go.WideShapes Go.ChangeAt Go.RowKit
set_option linter.unusedVariables false

def bcs (l : List UInt8) : List Value := l.map fun b => .int .u8 (b.toNat : Int)
theorem length_bcs (l : List UInt8) : (bcs l).length = l.length := by simp [bcs]
theorem bcs_append (l r : List UInt8) : bcs (l ++ r) = bcs l ++ bcs r := by simp [bcs]
abbrev OwnB (w : World) (base : Nat) (v : Value) (l : List UInt8) : Prop := w.ownsRow base 5 1 v l.length (bcs l)
theorem info5' : (Tryz.prog.info? 5).map (fun i => (i.zero, i.size, i.bytes)) = some (some (.int .u8 0), 1, 1) := by kernel_rfl
theorem take_next (t : ByteArray) (k : Nat) (h : k < t.size) : t.data.toList.take (k + 1) = t.data.toList.take k ++ [t[k]'h] := by
  rw [List.take_add_one]
  have : t.data.toList[k]? = some (t[k]'h) := by
    rw [Array.getElem?_toList]
    exact Array.getElem?_eq_getElem _
  rw [this]; rfl
theorem below_row {B : Nat} {w w1 w2 : World} {v : Value} {n : Nat} {xs : List Value} (h : Below B w w1) (ho : w1.ownsRow B 5 1 v n xs) (hB : B ≤ w1.heap.size) (hg : w1.grownBy w2 v.ownBlock) : Below B w w2 := by
  refine h.grown hg hB ?_
  intro k hk
  rcases ho.2 with ⟨rfl, _⟩ | ⟨g, cap, cur, rfl, hb, _⟩
  · cases hk
  · cases hk; exact hb
theorem own_step {w2 : World} {base g cap : Nat} {l l' d : List UInt8} (h : w2.ownsRow base 5 1 (.slice (some ⟨g, 0, none⟩) (l.length + d.length) cap) (l.length + d.length) (bcs l ++ bcs d)) (e : l' = l ++ d) :
    OwnB w2 base (.slice (some ⟨g, 0, none⟩) (l.length + d.length) cap) l' := by
  subst e
  unfold OwnB
  rw [bcs_append, List.length_append]
  exact h
theorem conv_own {w : World} {base : Nat} {v : Value} {l : List UInt8} (h : OwnB w base v l) : (convert 103 9 v).run Tryz.prog w = .ok (.string ⟨l.toArray⟩) w := by
  rcases h.2 with ⟨rfl, hn⟩ | ⟨g, cap, cur, rfl, hb, hg, hnc, hcm, hcs, htake⟩
  · obtain rfl : l = [] := List.eq_nil_of_length_eq_zero hn
    exact Lib.run_convert_nil_bytes w _ _ 5 0 Tryz.underlying103 Tryz.underlying5 Tryz.underlying9
  · refine run_convert_bytes_back w _ _ 5 ⟨g, 0, none⟩ cap l Tryz.underlying103 Tryz.underlying5 Tryz.underlying9 ?_
    intro j hj
    exact h.cells (g := g) rfl j _ (by simp [bcs, hj])
theorem wp_app {ops : Array Oper} {rest : List Oper} {o : Oper} {a : Act} {Q : Exit → Act → World → Prop} {w : World} (hgd : o.guard = none) (s x : Operand)
    (ho : o.op = .call { callee := .builtin .append, args := #[s, x], argTypes := #[103, 103] }) (base : Nat) (v : Value) (l d : List UInt8) (C : Array Value) (hC : C = (bcs d).toArray)
    (hs : a.eval s = v) (hown : OwnB w base v l) (hx : a.eval x = .slice (some ⟨w.heap.size, 0, none⟩) d.length d.length) (hd : 0 < d.length) (hsz : l.length + d.length ≤ 140737488351232) (hbase : base ≤ w.heap.size)
    (h : ∀ g cap w', OwnB w' base (.slice (some ⟨g, 0, none⟩) (l.length + d.length) cap) (l ++ d) → Below base w w' → base ≤ w'.heap.size → wpList Tryz.prog ops Q rest (a.put o.dst (.slice (some ⟨g, 0, none⟩) (l.length + d.length) cap)) w') :
    wpList Tryz.prog ops Q (o :: rest) a (w.alloc (.cells C 5)) := by
  subst hC
  obtain ⟨i0, hi0, hz0, hz1, hz2⟩ := info_parts info5'
  refine wpList_append_lies _ hgd s x 103 ho base 5 i0 (.int .u8 0) 1 1 Tryz.underlying103 hi0 hz0 hz1 hz2 rfl (by omega) v l.length (bcs l) hs (hown.alloc _) ⟨w.heap.size, 0, none⟩ d.length d.length (bcs d) hx (by simp [length_bcs]) (World.news_of_block (cs := (bcs d).toArray) (t := 5) (fr := (0, 0)) (heap_alloc_new w _)) ?_ hd (by unfold maxLen; omega) (by omega) (by simp; omega) (w.heap.size + 1) (by simp) ?_
  · intro u hu
    simp only [bcs, List.mem_map] at hu
    obtain ⟨b, _, rfl⟩ := hu
    rfl
  · intro g cap w1 hown1 hgrow hat hlt
    have hb : Below base w w1 := below_row ((Below.refl base w).alloc hbase _) (hown.alloc _) (by simp; omega) hgrow
    exact h g cap w1 (own_step hown1 rfl) hb (Nat.le_trans hbase hb.size)
end Go.Proofs.YtoekdeoekcmpgaaGreatDoor

namespace Go.Proofs.YtoekdeoekcmpgaaGreatDoor
open Go.ChangeShapes Go.WideShapes Go.ChangeAt Go.RowKit
set_option linter.unusedVariables false

def strLen : Value → Nat
  | .string s => s.size
  | _ => 0

set_option maxHeartbeats 1000000 in
theorem fold_same (s : ByteArray) (c : Int) (h1 : c ≠ 1) (h2 : c ≠ 2) (w : World) : Calls Tryz.prog 58 #[.string s, .int .i64 c] w fun e w' => e = .returned (.string s) ∧ Below w.heap.size w w' := by
  have e1 : (c != 1) = true := by simp [bne, h1]
  have e2 : (c == 2) = false := by simpa using h2
  clear h1 h2
  go_enter Tryz.func58, Tryz.ntmps58
  go_wp2
  go_ret
  exact ⟨rfl, Below.refl _ _⟩

theorem trimB_snoc (l : List UInt8) (c : UInt8) : Lib.trimRightB (l ++ [c]) 32 = if c = 32 then Lib.trimRightB l 32 else l ++ [c] := by
  unfold Lib.trimRightB
  rw [List.reverse_append, List.reverse_singleton, List.singleton_append, List.dropWhile_cons]
  by_cases h : c = 32
  · rw [if_pos h, if_pos (by simpa using h)]
  · rw [if_neg h, if_neg (by simpa using h)]; simp
theorem snoc_at (y : ByteArray) (h : 0 < y.size) : y.data.toList = (y.extract 0 (y.size - 1)).data.toList ++ [y[y.size - 1]'(by omega)] := by
  have hl : y.data.toList.length = y.size := by simp
  have e : (y.extract 0 (y.size - 1)).data.toList = y.data.toList.take (y.size - 1) := by rw [Lib.extract_eq]; show List.take _ _ = _; simp
  rw [e]
  have h2 := take_next y (y.size - 1) (by omega)
  rw [show y.size - 1 + 1 = y.size by omega, List.take_of_length_le (by omega)] at h2
  exact h2

set_option maxHeartbeats 1000000 in
set_option maxRecDepth 10000 in
theorem fold_trim (s : ByteArray) (hs : s.size ≤ 140737488351232) (w : World) : Calls Tryz.prog 58 #[.string s, .int .i64 2] w fun e w' => e = .returned (.string ⟨(Lib.trimRightB s.data.toList 32).toArray⟩) ∧ Below w.heap.size w w' := by
  obtain ⟨R, hR⟩ : ∃ R, Lib.trimRightB s.data.toList 32 = R := ⟨_, rfl⟩
  rw [hR]
  go_enter Tryz.func58, Tryz.ntmps58
  go_wp2
  go_loopw [0] (fun sv wr => ∃ y : ByteArray, sv = .string y ∧ y.size ≤ 140737488351232 ∧ Lib.trimRightB y.data.toList 32 = R ∧ wr = w) (fun sv _ => strLen sv)
  case atStart => exact ⟨s, rfl, hs, hR, rfl⟩
  case round =>
    clear hR
    obtain ⟨y, rfl, hy4, hyt, rfl⟩ := hrel
    have hyl : y.data.toList.length = y.size := by simp
    by_cases hy0 : y.size = 0
    · have hye : y.data.toList = [] := List.length_eq_zero_iff.1 (hyl.trans hy0)
      have l0 : ¬ (0 : Int) < (y.size : Int) := by omega
      have HR : Hid (y = ⟨R.toArray⟩) := by
        have e : R = [] := by rw [← hyt, hye]; rfl
        rw [e]
        cases y with | mk d => cases d with | mk l => simp at hye; rw [hye]; exact rfl
      clear hyt hye
      go_wp2
      go_ret
      exact ⟨congrArg (fun z => Ending.returned (.string z)) HR.out, Below.refl _ _⟩
    · have hpos : 0 < y.size := by omega
      obtain ⟨c, hc⟩ : ∃ c : UInt8, y[y.size - 1]'(by omega) = c := ⟨_, rfl⟩
      have hsn := snoc_at y hpos
      rw [hc] at hsn
      have hbz : ∀ (h : y.size - 1 < y.size), ((y[y.size - 1]'h).toNat : Int) = (c.toNat : Int) := fun h => by rw [hc]
      have l0 : (0 : Int) < (y.size : Int) := by omega
      have m1 : ((y.size : Int) - 1).toNat = y.size - 1 := by omega
      have m2 : (0 : Int) ≤ (y.size : Int) - 1 := by omega
      have m3 : (y.size : Int) - 1 < (y.size : Int) := by omega
      have m5 : (y.size : Int) - 1 ≤ (y.size : Int) := by omega
      have hw1 : IntKind.i64.wrap ((y.size : Int) - 1) = (y.size : Int) - 1 := by rw [IntKind.wrap_i64]; omega
      by_cases hb : c = 32
      · have eb : ((c.toNat : Int) == 32) = true := by rw [hb]; rfl
        have HR : Hid ((y.extract 0 (y.size - 1)).size ≤ 140737488351232 ∧ Lib.trimRightB (y.extract 0 (y.size - 1)).data.toList 32 = R ∧ (y.extract 0 (y.size - 1)).size < y.size) := by
          have e2 : (y.extract 0 (y.size - 1)).size = y.size - 1 := by rw [ByteArray.size_extract]; omega
          refine ⟨by omega, ?_, by omega⟩
          rw [← hyt]
          conv => rhs; rw [hsn, trimB_snoc, if_pos hb]
        clear hb hyt hc hsn
        go_wp2
        go_roundw
        case rel => exact ⟨_, rfl, HR.out.1, HR.out.2.1, by first | rfl | trivial⟩
        case measure => exact HR.out.2.2
      · have eb : ((c.toNat : Int) == 32) = false := beq_eq_false_iff_ne.2 (fun e => hb (UInt8.toNat_inj.1 (by simpa using Int.ofNat_inj.1 e)))
        have hyr : y.data.toList = R := by
          rw [← hyt]
          conv => rhs; rw [hsn, trimB_snoc, if_neg hb]
          exact hsn
        have HR : Hid (y = ⟨R.toArray⟩) := by
          rw [← hyr]
          cases y with | mk d => simp; exact trivial
        clear hb hyt hc hsn hyr
        go_wp2
        go_ret
        exact ⟨congrArg (fun z => Ending.returned (.string z)) HR.out, Below.refl _ _⟩

set_option maxHeartbeats 1000000 in
set_option maxRecDepth 10000 in
theorem fold_low (s : ByteArray) (hs : s.size ≤ 140737488351232) (w : World) : Calls Tryz.prog 58 #[.string s, .int .i64 1] w fun e w' => e = .returned (.string ⟨(s.data.toList.map lowB).toArray⟩) ∧ Below w.heap.size w w' := by
  go_enter Tryz.func58, Tryz.ntmps58
  go_wp2
  go_loopw [5, 6] (fun v i wr => ∃ j : Nat, j ≤ s.size ∧ i = .int .i64 j ∧ OwnB wr w.heap.size v ((s.data.toList.take j).map lowB) ∧ Below w.heap.size w wr) (fun _ i _ => s.size - (intOf i).toNat)
  case atStart => exact ⟨0, Nat.zero_le _, rfl, World.ownsRow_nil _ _ _ _, Below.refl _ _⟩
  case round =>
    obtain ⟨j, hj, rfl, hown, hbel⟩ := hrel
    have HO : Hid (OwnB wr w.heap.size u5 ((s.data.toList.take j).map lowB)) := hown
    have HB : Hid (Below w.heap.size w wr) := hbel
    have HS : Hid (w.heap.size ≤ wr.heap.size) := hbel.size
    have hsl : s.data.toList.length = s.size := by simp
    have hlen : ((s.data.toList.take j).map lowB).length = j := by rw [List.length_map, List.length_take]; omega
    have HN : Hid (((s.data.toList.take j).map lowB).length = j) := hlen
    clear hown hbel hlen
    by_cases hlt : j < s.size
    · have l1 : (j : Int) < (s.size : Int) := by omega
      have l0 : (0 : Int) ≤ (j : Int) := by omega
      have hw1 : IntKind.i64.wrap ((j : Int) + 1) = (j : Int) + 1 := by rw [IntKind.wrap_i64]; omega
      obtain ⟨c, hc⟩ : ∃ c : UInt8, s[j]'hlt = c := ⟨_, rfl⟩
      have HC : Hid (s[j]'hlt = c) := hc
      obtain ⟨q, hq⟩ : ∃ q : Nat, c.toNat = q := ⟨_, rfl⟩
      have hb : ∀ (h : j < s.size), ((s[j]'h).toNat : Int) = (q : Int) := fun h => by rw [hc, hq]
      obtain ⟨d, hd⟩ : ∃ d : UInt8, lowB c = d := ⟨_, rfl⟩
      have HDd : Hid (lowB c = d) := hd
      have hu : ∀ z : Int, IntKind.u8.wrap z = z % 256 := fun z => by simp [IntKind.wrap, IntKind.signed, IntKind.bits]
      have HST : Hid (((s.data.toList.take (j + 1)).map lowB) = (s.data.toList.take j).map lowB ++ [d]) := by
        rw [take_next s j hlt, List.map_append, hc, ← hd]; exact rfl
      have hq256 : q < 256 := by rw [← hq]; exact UInt8.toNat_lt c
      clear hc
      by_cases hup : 65 ≤ q ∧ q ≤ 90
      · have i1 : (65 : Int) ≤ (q : Int) := by omega
        have i2 : (q : Int) ≤ 90 := by omega
        have hdn : d.toNat = q + 32 := by
          rw [← hd]; unfold lowB; rw [if_pos (by rw [hq]; exact hup), UInt8.toNat_add, hq]
          show (q + 32) % 256 = _
          omega
        obtain ⟨e, he⟩ : ∃ e : Nat, q = 65 + e := ⟨q - 65, by omega⟩
        have hsub : (q : Int) - 65 = (e : Int) := by omega
        have he256 : (e : Int) % 256 = (e : Int) := by omega
        have hwe : IntKind.u8.wrap (e : Int) = (e : Int) := by rw [hu]; omega
        have hadd : (e : Int) + 97 = (d.toNat : Int) := by omega
        have hd256 : (d.toNat : Int) % 256 = (d.toNat : Int) := by omega
        have hwd : IntKind.u8.wrap (d.toNat : Int) = (d.toNat : Int) := by rw [hu]; omega
        clear hu hd hq he hdn hup
        go_wp2_with (first
          | (at_builtin; refine wp_app (by rfl) _ _ (by rfl) w.heap.size u5 _ [d] _ (by rfl) (by rfl) HO.out (by rfl) (by simp) (by rw [HN.out]; simp; omega) HS.out ?_; intro g3 cap3 w3 hown3 hbel3 hsz3))
        go_roundw
        case rel =>
          refine ⟨j + 1, by omega, by go_num, ?_, HB.out.trans hbel3⟩
          rw [HST.out]
          have h3 := hown3
          rw [HN.out] at h3
          exact h3
        case measure => (simp [intOf]) <;> omega
      · have hdn : d.toNat = q := by rw [← hd]; unfold lowB; rw [if_neg (by rw [hq]; exact hup), hq]
        have hqd : (q : Int) = (d.toNat : Int) := by omega
        have hb2 : ∀ (h : j < s.size), ((s[j]'h).toNat : Int) = (d.toNat : Int) := fun h => by rw [hb h, hqd]
        by_cases h1 : q < 65
        · have i1 : ¬ (65 : Int) ≤ (d.toNat : Int) := by omega
          clear hu hd hq hdn hup hqd hb h1
          go_wp2_with (first
            | (at_builtin; refine wp_app (by rfl) _ _ (by rfl) w.heap.size u5 _ [d] _ (by rfl) (by rfl) HO.out (by rfl) (by simp) (by rw [HN.out]; simp; omega) HS.out ?_; intro g3 cap3 w3 hown3 hbel3 hsz3))
          go_roundw
          case rel =>
            refine ⟨j + 1, by omega, by go_num, ?_, HB.out.trans hbel3⟩
            rw [HST.out]
            have h3 := hown3
            rw [HN.out] at h3
            exact h3
          case measure => (simp [intOf]) <;> omega
        · have i1 : (65 : Int) ≤ (d.toNat : Int) := by omega
          have i2 : ¬ (d.toNat : Int) ≤ 90 := by omega
          clear hu hd hq hdn hup hqd hb h1
          go_wp2_with (first
            | (at_builtin; refine wp_app (by rfl) _ _ (by rfl) w.heap.size u5 _ [d] _ (by rfl) (by rfl) HO.out (by rfl) (by simp) (by rw [HN.out]; simp; omega) HS.out ?_; intro g3 cap3 w3 hown3 hbel3 hsz3))
          go_roundw
          case rel =>
            refine ⟨j + 1, by omega, by go_num, ?_, HB.out.trans hbel3⟩
            rw [HST.out]
            have h3 := hown3
            rw [HN.out] at h3
            exact h3
          case measure => (simp [intOf]) <;> omega
    · have l1 : ¬ (j : Int) < (s.size : Int) := by omega
      have hjt : s.data.toList.take j = s.data.toList := List.take_of_length_le (by omega)
      have HO2 := HO.out
      rw [hjt] at HO2
      have hcv := conv_own HO2
      clear HO2 hjt
      go_wp2
      go_ret
      exact ⟨rfl, HB.out⟩

theorem fold_walk (s : ByteArray) (hs : s.size ≤ 140737488351232) (c : Int) (w : World) : Calls Tryz.prog 58 #[.string s, .int .i64 c] w fun e w' => e = .returned (.string ⟨(foldL c s.data.toList).toArray⟩) ∧ Below w.heap.size w w' := by
  unfold foldL
  by_cases h2 : c = 2
  · subst h2; rw [if_pos rfl]; exact fold_trim s hs w
  · rw [if_neg h2]
    by_cases h1 : c = 1
    · subst h1; rw [if_pos rfl]; exact fold_low s hs w
    · rw [if_neg h1]
      have := fold_same s c h1 h2 w
      rw [show (⟨s.data.toList.toArray⟩ : ByteArray) = s by cases s with | mk d => simp]
      exact this
end Go.Proofs.YtoekdeoekcmpgaaGreatDoor
