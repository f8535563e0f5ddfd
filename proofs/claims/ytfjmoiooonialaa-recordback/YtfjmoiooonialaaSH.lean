/- The document's Varint. -/
import Derived.Test.YtfjmoiooonialaaSG
namespace Go.Proofs.Ytfjmoiooonialaa
open Go.ChangeShapes Go.WideShapes Go.ChangeAt Go.RowKit
set_option linter.unusedVariables false

theorem cmp_fact (s Y : ByteArray) (u n : Nat) (hY : (⟨(putL u).toArray⟩ : ByteArray) = Y) (hiff : n = vsz u ↔ putL u = s.data.toList.take n) : (Y.toList == (s.extract 0 n).toList) = decide (n = vsz u) := by
  have e1 : Y.toList = putL u := by rw [ByteArray.toList_eq, ← hY]
  have e2 : (s.extract 0 n).toList = s.data.toList.take n := by
    rw [ByteArray.toList_eq, ByteArray.data_extract]
    simp
  rw [e1, e2, Bool.eq_iff_iff]
  simp only [beq_iff_eq, decide_eq_true_eq]
  exact hiff.symm

set_option maxHeartbeats 1000000 in
set_option maxRecDepth 10000 in
theorem rvarint_walk (s : ByteArray) (hs : s.size ≤ 140737488355328) (u n : Nat) (h : beg s.data.toList 0 0 = (u, n)) (r1 r2 : Nat) (hr1 : vrdU s.data.toList = r1) (hr2 : vrdN s.data.toList = r2) (w : World) : Calls Try.prog 8 #[.string s] w fun e w' => e = .returned (.tuple #[.int .u64 (r1 : Int), .int .i64 (r2 : Int)]) ∧ Below w.heap.size w w' := by
  have hiff := beg_iff s.data.toList u n h
  obtain ⟨Y, hY⟩ : ∃ Y : ByteArray, (⟨(putL u).toArray⟩ : ByteArray) = Y := ⟨_, rfl⟩
  have HP : Hid (∀ V, Calls Try.prog 10 #[.int .u64 (u : Int)] V fun e w' => e = .returned (.string Y) ∧ Below V.heap.size V w') := fun V => by
    have := rput_walk u (by omega) V
    rw [hY] at this
    exact this
  unfold vrdU at hr1
  unfold vrdN at hr2
  rw [h] at hr1 hr2
  have HR := hide (And.intro hr1 (And.intro hr2 (And.intro hiff hY)))
  clear hr1 hr2 hiff hY
  go_enter Try.func8, Try.ntmps8
  go_wp2_with fail
  go_loopw [4, 5] (fun uv nv wr => ∃ (j : Nat) (d : List UInt8), d.length = j ∧ (∀ b ∈ d, 128 ≤ b.toNat) ∧ j ≤ 8 ∧ d ++ s.data.toList.drop j = s.data.toList ∧ j ≤ s.size ∧ uv = .int .u64 (valD d : Int) ∧ nv = .int .i64 (j : Int) ∧ beg (s.data.toList.drop j) j (valD d) = (u, n) ∧ w = wr) (fun _ nv _ => s.size - (intOf nv).toNat)
  case atStart =>
    exact ⟨0, [], rfl, by simp, by omega, rfl, by omega, rfl, rfl, h, rfl⟩
  case round =>
    obtain ⟨j, d, hd, hhi, hj8, happ, hjs, rfl, rfl, hbeg, rfl⟩ := hrel
    obtain ⟨v, hv⟩ : ∃ v, valD d = v := ⟨_, rfl⟩
    rw [hv]
    have l9 : (j : Int) < 9 := by omega
    by_cases hlt : j < s.size
    · have l1 : (j : Int) < (s.size : Int) := by omega
      have l0 : (0 : Int) ≤ (j : Int) := by omega
      have l2 : (j : Int) + 1 ≤ (s.size : Int) := by omega
      have l3 : (0 : Int) ≤ (j : Int) + 1 := by omega
      obtain ⟨p, hp⟩ : ∃ p : UInt8, s[j]'hlt = p := ⟨_, rfl⟩
      have hb1 : ∀ (h : j < s.size), ((s[j]'h).toNat : Int) = (p.toNat : Int) := fun h => by rw [hp]
      have hvl := valD_lt d
      rw [hv, hd] at hvl
      have hpl := p.toNat_lt
      have hdrop : s.data.toList.drop j = p :: s.data.toList.drop (j + 1) := by
        rw [← hp, List.drop_eq_getElem_cons (by simpa using hlt)]
        rfl
      rw [hdrop, beg, hv] at hbeg
      have happ2 : (d ++ [p]) ++ s.data.toList.drop (j + 1) = s.data.toList := by
        rw [List.append_assoc, List.singleton_append, ← hdrop]; exact happ
      have HD := hide (And.intro hd (And.intro hhi (And.intro happ2 hv)))
      have hwj : IntKind.i64.wrap ((j : Int) + 1) = (j : Int) + 1 := by rw [IntKind.wrap_i64]; omega
      clear hd hhi happ happ2 hv hp h hdrop
      by_cases h8 : j = 8
      · rw [if_pos h8] at hbeg
        have h9 : ((j : Int) == 8) = true := by simp; omega
        obtain ⟨hu, hn⟩ : v * 256 + p.toNat = u ∧ 9 = n := by simpa using hbeg
        have hn1 : j + 1 = n := by omega
        rw [h8] at hvl
        simp only [Nat.reducePow] at hvl
        have hm1 : IntKind.u64.wrap ((v : Int) * 256) = (v : Int) * 256 := by rw [IntKind.wrap_u64]; omega
        have huv : (v : Int) * 256 + (p.toNat : Int) = (u : Int) := by omega
        have huw : IntKind.u64.wrap (u : Int) = (u : Int) := by rw [IntKind.wrap_u64]; omega
        have hpw : IntKind.u64.wrap (p.toNat : Int) = (p.toNat : Int) := by rw [IntKind.wrap_u64]; omega
        clear hbeg hpl hvl h8 hn
        obtain ⟨hr1, hr2, hiff, hY⟩ := HR.out
        have hiff2 : n = vsz u ↔ putL u = s.data.toList.take n := by
          rcases hiff with h | h
          · omega
          · exact h.2.2.2.2
        have hcmp := cmp_fact s Y u n hY hiff2
        by_cases hz : n = vsz u
        · rw [if_pos hz] at hr1 hr2
          subst hr1 hr2
          rw [decide_eq_true hz] at hcmp
          clear hz hiff hiff2 hY
          go_wp2_with fail
          go_region_held3 (fun _ => True) (trivial) (first
            | (go_at_call 10; with_reducible refine Calls.mono (HP.out _) ?_; rintro e w2 ⟨rfl, hb2⟩; have HX2 := hide (below_trans (Below.refl _ _).drew hb2); clear hb2))
          all_goals (try go_wp2)
          all_goals go_ret2
          all_goals exact ⟨by first | rfl | (simp; done) | (simp; omega), HX2.out⟩
        · rw [if_neg hz] at hr1 hr2
          subst hr1 hr2
          rw [decide_eq_false hz] at hcmp
          clear hz hiff hiff2 hY
          go_wp2_with fail
          go_region_held3 (fun _ => True) (trivial) (first
            | (go_at_call 10; with_reducible refine Calls.mono (HP.out _) ?_; rintro e w2 ⟨rfl, hb2⟩; have HX2 := hide (below_trans (Below.refl _ _).drew hb2); clear hb2))
          all_goals (try go_wp2)
          all_goals go_ret2
          all_goals exact ⟨by first | rfl | (simp; done) | (simp; omega), HX2.out⟩
      · have h9 : ((j : Int) == 8) = false := by simp; omega
        rw [if_neg h8] at hbeg
        have hv7 : v < 562949953421312 := by
          have : 128 ^ j ≤ 128 ^ 7 := Nat.pow_le_pow_right (by omega) (by omega)
          simp only [Nat.reducePow] at this
          omega
        have hm1 : IntKind.u64.wrap ((v : Int) * 128) = (v : Int) * 128 := by rw [IntKind.wrap_u64]; omega
        have hm2 : IntKind.u64.wrap ((v : Int) * 128 + (p.toNat : Int) % 128) = (v : Int) * 128 + (p.toNat : Int) % 128 := by rw [IntKind.wrap_u64]; omega
        clear hvl hv7
        by_cases hp1 : p.toNat < 128
        · rw [if_pos hp1] at hbeg
          obtain ⟨hu, hn⟩ : v * 128 + p.toNat = u ∧ j + 1 = n := by simpa using hbeg
          have hp2 : (p.toNat : Int) < 128 := by omega
          have huv : (v : Int) * 128 + (p.toNat : Int) % 128 = (u : Int) := by omega
          have huw : IntKind.u64.wrap (u : Int) = (u : Int) := by rw [← huv]; exact hm2
          clear hm2
          clear hbeg hpl
          obtain ⟨hr1, hr2, hiff, hY⟩ := HR.out
          have hiff2 : n = vsz u ↔ putL u = s.data.toList.take n := by
            rcases hiff with h | h
            · omega
            · exact h.2.2.2.2
          have hcmp := cmp_fact s Y u n hY hiff2
          by_cases hz : n = vsz u
          · rw [if_pos hz] at hr1 hr2
            subst hr1 hr2
            rw [decide_eq_true hz] at hcmp
            clear hz hiff hiff2 hY
            go_wp2_with fail
            go_region_held3 (fun _ => True) (trivial) (first
              | (go_at_call 10; with_reducible refine Calls.mono (HP.out _) ?_; rintro e w2 ⟨rfl, hb2⟩; have HX2 := hide (below_trans (Below.refl _ _).drew hb2); clear hb2))
            all_goals (try go_wp2)
            all_goals go_ret2
            all_goals exact ⟨by first | rfl | (simp; done) | (simp; omega), HX2.out⟩
          · rw [if_neg hz] at hr1 hr2
            subst hr1 hr2
            rw [decide_eq_false hz] at hcmp
            clear hz hiff hiff2 hY
            go_wp2_with fail
            go_region_held3 (fun _ => True) (trivial) (first
              | (go_at_call 10; with_reducible refine Calls.mono (HP.out _) ?_; rintro e w2 ⟨rfl, hb2⟩; have HX2 := hide (below_trans (Below.refl _ _).drew hb2); clear hb2))
            all_goals (try go_wp2)
            all_goals go_ret2
            all_goals exact ⟨by first | rfl | (simp; done) | (simp; omega), HX2.out⟩
        · rw [if_neg hp1] at hbeg
          have hp2 : ¬ (p.toNat : Int) < 128 := by omega
          have hp3 : (128 : Int) ≤ (p.toNat : Int) := by omega
          have HBG := hide hbeg
          clear hbeg hpl
          go_wp2_with fail
          obtain ⟨hd, hhi, happ2, hv⟩ := HD.out
          refine ⟨⟨j + 1, d ++ [p], by simp [hd], ?_, by omega, happ2, by omega, ?_, ?_, ?_, trivial⟩, ?_⟩
          · intro b hb
            rcases List.mem_append.1 hb with h | h
            · exact hhi b h
            · have : b = p := by simpa using h
              subst this; omega
          · rw [valD_snoc, hv]
            exact congrArg _ (by omega)
          · first | rfl | simp
          · rw [valD_snoc, hv]; exact HBG.out
          · simp [intOf]; omega
    · have hj : j = s.size := by omega
      subst hj
      rw [List.drop_of_length_le (by simp), beg] at hbeg
      obtain ⟨hu, hn⟩ : 0 = u ∧ 0 = n := by simpa using hbeg
      obtain ⟨hr1, hr2, hiff, hY⟩ := HR.out
      have hvp := vsz_pos u
      rw [if_neg (by omega)] at hr1 hr2
      subst hr1 hr2
      clear hbeg hv hd hhi happ h hiff hY hvp hu hn
      go_wp2_with fail
      go_ret2
      exact ⟨by first | rfl | simp, Below.refl _ _⟩
end Go.Proofs.Ytfjmoiooonialaa
