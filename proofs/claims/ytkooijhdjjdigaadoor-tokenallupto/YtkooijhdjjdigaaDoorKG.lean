/- The document's Fold to small letters; its Bytes, of a blob. -/
import Derived.Test.YtkooijhdjjdigaaDoorKF
namespace Go.Proofs.YtkooijhdjjdigaaDoor
open Go.ChangeShapes Go.WideShapes Go.ChangeAt Go.RowKit
set_option linter.unusedVariables false
set_option maxHeartbeats 1000000 in
set_option maxRecDepth 10000 in
theorem fold_low (s : ByteArray) (hs : s.size ≤ 140737488351232) (w : World) : Calls Tryd.prog 32 #[.string s, .int .i64 1] w fun e w' => e = .returned (.string ⟨(s.data.toList.map lowB).toArray⟩) ∧ Below w.heap.size w w' := by
  go_enter Tryd.func32, Tryd.ntmps32
  go_wp2
  go_loopw [5, 6] (fun v i wr => ∃ j : Nat, j ≤ s.size ∧ i = .int .i64 j ∧ OwnB wr w.heap.size v ((s.data.toList.take j).map lowB) ∧ Below w.heap.size w wr) (fun _ i _ => s.size - (intOf i).toNat)
  case atStart => exact ⟨0, Nat.zero_le _, rfl, World.ownsRow_nil _ _ _ _, Below.refl _ _⟩
  case round =>
    obtain ⟨j, hj, rfl, hown, hbel⟩ := hrel
    have HO : Hid (OwnB wr w.heap.size u5 ((s.data.toList.take j).map lowB)) := hown
    have HB : Hid (Below w.heap.size w wr) := hbel
    have HS : Hid (w.heap.size ≤ wr.heap.size) := hbel.size
    have hsl : s.data.toList.length = s.size := by simp
    have hlen : ((s.data.toList.take j).map lowB).length = j := by rw [List.length_map, List.length_take]; omega
    have HN : Hid (((s.data.toList.take j).map lowB).length = j) := hlen
    clear hown hbel hlen
    by_cases hlt : j < s.size
    · have l1 : (j : Int) < (s.size : Int) := by omega
      have l0 : (0 : Int) ≤ (j : Int) := by omega
      have hw1 : IntKind.i64.wrap ((j : Int) + 1) = (j : Int) + 1 := by rw [IntKind.wrap_i64]; omega
      obtain ⟨c, hc⟩ : ∃ c : UInt8, s[j]'hlt = c := ⟨_, rfl⟩
      have HC : Hid (s[j]'hlt = c) := hc
      obtain ⟨q, hq⟩ : ∃ q : Nat, c.toNat = q := ⟨_, rfl⟩
      have hb : ∀ (h : j < s.size), ((s[j]'h).toNat : Int) = (q : Int) := fun h => by rw [hc, hq]
      obtain ⟨d, hd⟩ : ∃ d : UInt8, lowB c = d := ⟨_, rfl⟩
      have HDd : Hid (lowB c = d) := hd
      have hu : ∀ z : Int, IntKind.u8.wrap z = z % 256 := fun z => by simp [IntKind.wrap, IntKind.signed, IntKind.bits]
      have HST : Hid (((s.data.toList.take (j + 1)).map lowB) = (s.data.toList.take j).map lowB ++ [d]) := by
        rw [take_next s j hlt, List.map_append, hc, ← hd]; exact rfl
      have hq256 : q < 256 := by rw [← hq]; exact UInt8.toNat_lt c
      clear hc
      by_cases hup : 65 ≤ q ∧ q ≤ 90
      · have i1 : (65 : Int) ≤ (q : Int) := by omega
        have i2 : (q : Int) ≤ 90 := by omega
        have hdn : d.toNat = q + 32 := by
          rw [← hd]; unfold lowB; rw [if_pos (by rw [hq]; exact hup), UInt8.toNat_add, hq]
          show (q + 32) % 256 = _
          omega
        obtain ⟨e, he⟩ : ∃ e : Nat, q = 65 + e := ⟨q - 65, by omega⟩
        have hsub : (q : Int) - 65 = (e : Int) := by omega
        have he256 : (e : Int) % 256 = (e : Int) := by omega
        have hwe : IntKind.u8.wrap (e : Int) = (e : Int) := by rw [hu]; omega
        have hadd : (e : Int) + 97 = (d.toNat : Int) := by omega
        have hd256 : (d.toNat : Int) % 256 = (d.toNat : Int) := by omega
        have hwd : IntKind.u8.wrap (d.toNat : Int) = (d.toNat : Int) := by rw [hu]; omega
        clear hu hd hq he hdn hup
        go_wp2_with (first
          | (at_builtin; refine wp_app (by rfl) _ _ (by rfl) w.heap.size u5 _ [d] _ (by rfl) (by rfl) HO.out (by rfl) (by simp) (by rw [HN.out]; simp; omega) HS.out ?_; intro g3 cap3 w3 hown3 hbel3 hsz3))
        go_roundw
        case rel =>
          refine ⟨j + 1, by omega, by go_num, ?_, HB.out.trans hbel3⟩
          rw [HST.out]
          have h3 := hown3
          rw [HN.out] at h3
          exact h3
        case measure => (simp [intOf]) <;> omega
      · have hdn : d.toNat = q := by rw [← hd]; unfold lowB; rw [if_neg (by rw [hq]; exact hup), hq]
        have hqd : (q : Int) = (d.toNat : Int) := by omega
        have hb2 : ∀ (h : j < s.size), ((s[j]'h).toNat : Int) = (d.toNat : Int) := fun h => by rw [hb h, hqd]
        by_cases h1 : q < 65
        · have i1 : ¬ (65 : Int) ≤ (d.toNat : Int) := by omega
          clear hu hd hq hdn hup hqd hb h1
          go_wp2_with (first
            | (at_builtin; refine wp_app (by rfl) _ _ (by rfl) w.heap.size u5 _ [d] _ (by rfl) (by rfl) HO.out (by rfl) (by simp) (by rw [HN.out]; simp; omega) HS.out ?_; intro g3 cap3 w3 hown3 hbel3 hsz3))
          go_roundw
          case rel =>
            refine ⟨j + 1, by omega, by go_num, ?_, HB.out.trans hbel3⟩
            rw [HST.out]
            have h3 := hown3
            rw [HN.out] at h3
            exact h3
          case measure => (simp [intOf]) <;> omega
        · have i1 : (65 : Int) ≤ (d.toNat : Int) := by omega
          have i2 : ¬ (d.toNat : Int) ≤ 90 := by omega
          clear hu hd hq hdn hup hqd hb h1
          go_wp2_with (first
            | (at_builtin; refine wp_app (by rfl) _ _ (by rfl) w.heap.size u5 _ [d] _ (by rfl) (by rfl) HO.out (by rfl) (by simp) (by rw [HN.out]; simp; omega) HS.out ?_; intro g3 cap3 w3 hown3 hbel3 hsz3))
          go_roundw
          case rel =>
            refine ⟨j + 1, by omega, by go_num, ?_, HB.out.trans hbel3⟩
            rw [HST.out]
            have h3 := hown3
            rw [HN.out] at h3
            exact h3
          case measure => (simp [intOf]) <;> omega
    · have l1 : ¬ (j : Int) < (s.size : Int) := by omega
      have hjt : s.data.toList.take j = s.data.toList := List.take_of_length_le (by omega)
      have HO2 := HO.out
      rw [hjt] at HO2
      have hcv := conv_own HO2
      clear HO2 hjt
      go_wp2
      go_ret
      exact ⟨rfl, HB.out⟩
set_option maxHeartbeats 2000000 in
set_option maxRecDepth 10000 in
theorem bytes_blob (s : ByteArray) (hs : s.size ≤ 140737488351232) (w : World) : Calls Tryd.prog 48 #[.string s, .bool true] w fun e w' => e = .returned (bytV (unhx s.data.toList)) ∧ Below w.heap.size w w' := by
  obtain ⟨i0, hi0, hi1, hi2, hi3⟩ := info_parts info5'
  go_enter Tryd.func48, Tryd.ntmps48
  go_wp2
  go_loopw [6, 7] (fun v i wr => ∃ (j : Nat) (l : List UInt8), j ≤ s.size ∧ l.length ≤ j ∧ i = .int .i64 j ∧ OwnB wr w.heap.size v l ∧ unhx s.data.toList = (unhx (s.data.toList.drop j)).map (l ++ ·) ∧ Below w.heap.size w wr) (fun _ i _ => s.size - (intOf i).toNat)
  case atStart => exact ⟨0, [], Nat.zero_le _, Nat.le_refl _, rfl, World.ownsRow_nil _ _ _ _, by simp, Below.refl _ _⟩
  case round =>
    obtain ⟨j, l, hj, hll, rfl, hown, hrel, hbel⟩ := hrel
    have HO : Hid (OwnB wr w.heap.size u6 l) := hown
    have HB : Hid (Below w.heap.size w wr) := hbel
    have HS : Hid (w.heap.size ≤ wr.heap.size) := hbel.size
    clear hown hbel
    by_cases hlt : j < s.size
    · have l1 : (j : Int) < (s.size : Int) := by omega
      have l0 : (0 : Int) ≤ (j : Int) := by omega
      have hw1 : IntKind.i64.wrap ((j : Int) + 1) = (j : Int) + 1 := by rw [IntKind.wrap_i64]; omega
      obtain ⟨c, hc⟩ : ∃ c : UInt8, s[j]'hlt = c := ⟨_, rfl⟩
      have hdr := drop_next s j hlt
      rw [hc] at hdr
      rw [hdr] at hrel
      have hb : ∀ (h : j < s.size), ((s[j]'h).toNat : Int) = (c.toNat : Int) := fun h => by rw [hc]
      by_cases hlt2 : j + 1 < s.size
      · have m1 : ¬ (s.size : Int) ≤ (j : Int) + 1 := by omega
        have m2 : (j : Int) + 1 < (s.size : Int) := by omega
        have m3 : (0 : Int) ≤ (j : Int) + 1 := by omega
        have m4 : ((j : Int) + 1).toNat = j + 1 := by omega
        obtain ⟨d, hd⟩ : ∃ d : UInt8, s[j + 1]'hlt2 = d := ⟨_, rfl⟩
        have hdr2 := drop_next s (j + 1) hlt2
        rw [hd] at hdr2
        rw [hdr2, unhx] at hrel
        have hb2 : ∀ (h : j + 1 < s.size), ((s[j + 1]'h).toNat : Int) = (d.toNat : Int) := fun h => by rw [hd]
        obtain ⟨x, hx⟩ : ∃ x, nibI c = x := ⟨_, rfl⟩
        obtain ⟨y, hy⟩ : ∃ y, nibI d = y := ⟨_, rfl⟩
        have HC : Hid (∀ V, Calls Tryd.prog 67 #[.int .u8 (c.toNat : Int)] V fun e w' => e = .returned (.int .i64 x) ∧ V = w') := fun V => by rw [← hx]; exact nibble_e c V
        have HD : Hid (∀ V, Calls Tryd.prog 67 #[.int .u8 (d.toNat : Int)] V fun e w' => e = .returned (.int .i64 y) ∧ V = w') := fun V => by rw [← hy]; exact nibble_e d V
        cases hnc : nibR c with
        | none =>
          have hx0 : x = -1 := by rw [← hx]; unfold nibI; rw [hnc]
          have HN : Hid (unhx s.data.toList = none) := (show unhx s.data.toList = none by rw [hrel, hnc]; rfl)
          clear hrel hdr hc hd hdr2 hx hy hnc
          subst hx0
          go_wp2_with (first
            | (go_at_call 67; with_reducible refine Calls.mono (HC.out _) ?_; rintro e w5 ⟨rfl, rfl⟩)
            | (go_at_call 67; with_reducible refine Calls.mono (HD.out _) ?_; rintro e w5 ⟨rfl, rfl⟩))
          go_ret2
          rw [HN.out]
          exact ⟨rfl, HB.out⟩
        | some a =>
          have ha := nib_lt hnc
          have hx0 : x = (a : Int) := by rw [← hx]; unfold nibI; rw [hnc]
          cases hnd : nibR d with
          | none =>
            have hy0 : y = -1 := by rw [← hy]; unfold nibI; rw [hnd]
            have HN : Hid (unhx s.data.toList = none) := (show unhx s.data.toList = none by rw [hrel, hnc, hnd]; rfl)
            clear hrel hdr hc hd hdr2 hx hy hnc hnd
            subst hx0 hy0
            go_wp2_with (first
              | (go_at_call 67; with_reducible refine Calls.mono (HC.out _) ?_; rintro e w5 ⟨rfl, rfl⟩)
              | (go_at_call 67; with_reducible refine Calls.mono (HD.out _) ?_; rintro e w5 ⟨rfl, rfl⟩))
            go_ret2
            rw [HN.out]
            exact ⟨rfl, HB.out⟩
          | some b =>
            have hb' := nib_lt hnd
            have hy0 : y = (b : Int) := by rw [← hy]; unfold nibI; rw [hnd]
            obtain ⟨z, hz⟩ : ∃ z : UInt8, UInt8.ofNat (a * 16 + b) = z := ⟨_, rfl⟩
            have hz1 : z.toNat = a * 16 + b := by rw [← hz, UInt8.toNat_ofNat']; omega
            have HR : Hid (unhx s.data.toList = (unhx (s.data.toList.drop (j + 1 + 1))).map ((l ++ [z]) ++ ·)) := (show unhx s.data.toList = (unhx (s.data.toList.drop (j + 1 + 1))).map ((l ++ [z]) ++ ·) by rw [hrel, hnc, hnd, ← map_cat, ← hz]; rfl)
            have hw2 : IntKind.i64.wrap ((a : Int) * 16) = (a : Int) * 16 := by rw [IntKind.wrap_i64]; omega
            have hw3 : IntKind.i64.wrap ((a : Int) * 16 + (b : Int)) = (a : Int) * 16 + (b : Int) := by rw [IntKind.wrap_i64]; omega
            have hz2 : ((a : Int) * 16 + (b : Int)) % 256 = (z.toNat : Int) := by omega
            have hz3 : IntKind.u8.wrap ((a : Int) * 16 + (b : Int)) = (z.toNat : Int) := by have h1 : ∀ x : Int, IntKind.u8.wrap x = x % 256 := (fun x => by simp [IntKind.wrap, IntKind.signed, IntKind.bits]); rw [h1]; omega
            have na : ¬ (a : Int) < 0 := by omega
            have nb : ¬ (b : Int) < 0 := by omega
            have N1 : Hid (l.length + 1 ≤ maxLen) := (show l.length + 1 ≤ maxLen by unfold maxLen; omega)
            have N2 : Hid ((l.length + 1) * 1 ≤ 140737488355328) := (show (l.length + 1) * 1 ≤ 140737488355328 by omega)
            have hwsz : w.heap.size ≤ wr.heap.size := HS.out
            clear hrel hdr hc hd hdr2 hx hy hnc hnd hz hz1
            subst hx0 hy0
            go_upto_region 8 with (first
              | (go_at_call 67; with_reducible refine Calls.mono (HC.out _) ?_; rintro e w5 ⟨rfl, rfl⟩)
              | (go_at_call 67; with_reducible refine Calls.mono (HD.out _) ?_; rintro e w5 ⟨rfl, rfl⟩))
            go_region_held3 (fun _ => True) (trivial) (first
              | (go_at_call 67; with_reducible refine Calls.mono (HC.out _) ?_; rintro e w5 ⟨rfl, rfl⟩)
              | (go_at_call 67; with_reducible refine Calls.mono (HD.out _) ?_; rintro e w5 ⟨rfl, rfl⟩)
              | (refine step_append_lies _ (by rfl) _ _ _ (by rfl) w.heap.size 5 i0 (.int .u8 0) 1 1 Tryd.underlying62 hi0 hi1 hi2 hi3 rfl (by omega) u6 _ _ (by rfl) ((HO.out.alloc _).drew) ⟨wr.heap.size, 0, none⟩ 1 1 [.int .u8 (z.toNat : Int)] (by rfl) (by rfl) (World.news_of_block (cs := #[.int .u8 (z.toNat : Int)]) (t := 5) (fr := (0, 0)) (heap_alloc_new wr _)) (by simp [Value.oneCell']) (by omega) N1.out N2.out (by simp; omega) (wr.heap.size + 1) (by simp) ?_; intro gg cap w2 hown2 hgrow hat hlt2))
            all_goals
              go_wp2
              go_roundw
              case rel => exact ⟨j + 1 + 1, l ++ [z], by omega, by simp; omega, by simp, own_step (d := [z]) hown2 rfl, HR.out, below_row ((HB.out.alloc hwsz _).drew) ((HO.out.alloc _).drew) (by simp; omega) hgrow⟩
              case measure => simp [intOf]; omega
      · have m1 : (s.size : Int) ≤ (j : Int) + 1 := by omega
        have HN : Hid (unhx s.data.toList = none) := (show unhx s.data.toList = none by rw [hrel, List.drop_of_length_le (by simp; omega)]; simp [unhx])
        clear hrel hdr hc
        go_wp2
        go_ret2
        rw [HN.out]
        exact ⟨rfl, HB.out⟩
    · have hje : j = s.size := by omega
      subst hje
      have l1 : ¬ ((s.size : Int) < (s.size : Int)) := by omega
      have HN : Hid (unhx s.data.toList = some l) := (show unhx s.data.toList = some l by rw [hrel, List.drop_of_length_le (by simp)]; simp [unhx])
      have hcv := conv_own HO.out
      clear hrel
      go_wp2
      go_ret2
      rw [HN.out]
      exact ⟨rfl, HB.out⟩
end Go.Proofs.YtkooijhdjjdigaaDoor
