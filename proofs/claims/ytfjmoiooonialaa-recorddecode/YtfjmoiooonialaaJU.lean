/- The document's Decode of any text. -/
import Derived.Test.YtfjmoiooonialaaJT
import Derived.Deep.RegionHeld3
import Derived.Deep.CutRange
namespace Go.Proofs.Ytfjmoiooonialaa
open Go.ChangeShapes Go.WideShapes Go.ChangeAt Go.RowKit
set_option linter.unusedVariables false

theorem bl_al2 {w V : World} (h : Below w.heap.size w V) (o : Obj) : Below w.heap.size w (V.alloc o) := h.alloc h.size o
theorem bl_al {w V : World} (h : Below w.heap.size w V) (o : Obj) : Below w.heap.size w (V.alloc o) := h.alloc h.size o
theorem bl_st {w V : World} (h : Below w.heap.size w V) (o : Obj) (v : Value) : Below w.heap.size w ((V.alloc o).setCell ⟨V.heap.size, 0, none⟩ v) := (bl_al h o).setCell h.size _
theorem bl_st3 {w V : World} (h : Below w.heap.size w V) (x y z : Value) : Below w.heap.size w (((V.setCell ⟨w.heap.size, 0, none⟩ x).setCell ⟨w.heap.size, 1, none⟩ y).setCell ⟨w.heap.size, 2, none⟩ z) := ((h.setCell (Nat.le_refl _) _).setCell (Nat.le_refl _) _).setCell (Nat.le_refl _) _
theorem nil_later {w w1 : World} (hb : Below (w.alloc nilv).drew.heap.size (w.alloc nilv).drew w1) : w1.heap[w.heap.size]? = some nilv := by
  rw [hb.block w.heap.size (by show w.heap.size < (w.alloc nilv).heap.size; simp)]
  exact blk_new w nilv

set_option maxHeartbeats 8000000 in
set_option maxRecDepth 10000 in
theorem rdecode_any (l : List UInt8) (hs : l.length ≤ 140737488355328) (w : World) :
    Calls Try.prog 17 #[.string ⟨l.toArray⟩] w fun e w' => (∀ vs, rdAll l = some vs → ∃ p c, e = .returned (.tuple #[.slice p vs.length c, .int .i64 0]) ∧ RowP w' p vs.length (KV vs) (NV vs) (TV vs) ∧ Below w.heap.size w w') ∧ (rdAll l = none → e = .returned (.tuple #[.slice none 0 0, .int .i64 8]) ∧ Below w.heap.size w w') := by
  have HV := hide (rvarint_any l hs w)
  obtain ⟨u, hu⟩ : ∃ u, vrdU l = u := ⟨_, rfl⟩
  obtain ⟨n, hn⟩ : ∃ n, vrdN l = n := ⟨_, rfl⟩
  rw [hu, hn] at HV
  obtain ⟨S, hS⟩ : ∃ S : ByteArray, (⟨l.toArray⟩ : ByteArray) = S := ⟨_, rfl⟩
  have hz : S.size = l.length := by rw [← hS, szL]
  rw [hS] at HV
  rw [hS]
  have HSS := hide hS
  by_cases hbad : n = 0 ∨ 16 < u
  · have HNo := hide (rdAll_no (rvRd_no (l := l) (by rw [hu, hn]; exact hbad)))
    by_cases h0 : n = 0
    · subst h0
      clear hbad hu hn hS hz hs
      go_enter Try.func17, Try.ntmps17
      go_wp2_with (first
        | (go_at_call 8; (with_reducible refine Calls.mono HV.out ?_); rintro e w1 ⟨rfl, hb⟩; have HX := hide hb; clear hb))
      go_ret2
      exact rpost_bad HNo.out HX.out
    · have g0 : ((n : Int) == 0) = false := by simp; omega
      have l16 : (16 : Int) < (u : Int) := by omega
      clear hbad hu hn hS hz hs h0
      go_enter Try.func17, Try.ntmps17
      go_wp2_with (first
        | (go_at_call 8; (with_reducible refine Calls.mono HV.out ?_); rintro e w1 ⟨rfl, hb⟩; have HX := hide hb; clear hb))
      go_ret2
      exact rpost_bad HNo.out HX.out
  have hz0 : vrdN l ≠ 0 := by omega
  obtain ⟨v1, v2, v3, v4⟩ := vrd_take hz0
  have g0 : ((n : Int) == 0) = false := by simp; omega
  have l16 : ¬ (16 : Int) < (u : Int) := by omega
  have xu : IntKind.i64.wrap (u : Int) = (u : Int) := by rw [IntKind.wrap_i64]; omega
  have lu0 : (0 : Int) ≤ (u : Int) := by omega
  have lu1 : (u : Int) ≤ 16 := by omega
  obtain ⟨l1, hl1⟩ : ∃ l1, l.drop n = l1 := ⟨_, rfl⟩
  have HI : Hid (∀ {ts : List Nat} {r : List UInt8}, rdT u l1 = some (ts, r) → rvRd l = rdF rvV ts r) := fun {ts r} h => rvRd_R (by rw [hu, hn]; exact hbad) (by rw [hu, hn, hl1]; exact h)
  have HIn : Hid (rdT u l1 = none → rdAll l = none) := fun h => rdAll_no (rvRd_T (by rw [hu, hn, hl1]; exact h))
  have HAt : Hid (n ≤ l.length) := by show _ ≤ _; omega
  have HL1 := hide hl1
  have HLs := hide hs
  have HU := hide (show u ≤ 16 by omega)
  clear hbad hu hn hS hs hz0 v1 v2 v3 v4 hl1
  go_enter Try.func17, Try.ntmps17
  go_wp2_with (first
    | (go_at_call 8; (with_reducible refine Calls.mono HV.out ?_); rintro e w1 ⟨rfl, hb⟩; have HX := hide hb; clear hb))
  go_loopw [5, 6, 7] (fun av tv iv wr => ∃ (j at' : Nat) (done : List Nat) (lj : List UInt8), j ≤ u ∧ iv = .int .i64 (j : Int) ∧ av = .int .i64 (at' : Int) ∧ at' ≤ l.length ∧ l.drop at' = lj ∧ TyAt u l1 j done lj ∧ (∀ t ∈ done, t < 18446744073709551616) ∧ wr.ownsRow w.heap.size 22 1 tv j (u64L done) ∧ Below w.heap.size w wr) (fun _ _ iv _ => u - (intOf iv).toNat)
  case atStart => exact ⟨0, n, [], l1, Nat.zero_le _, rfl, rfl, HAt.out, HL1.out, TyAt.zero _ _, fun t ht => (by cases ht), World.ownsRow_nil _ _ _ _, HX.out⟩
  case round =>
    obtain ⟨j, at', done, lj, hj, rfl, rfl, hat, hdr, hty, hlt64, hown, hb⟩ := hrel
    have HTy := hide hty
    have H64 := hide hlt64
    have HOw := hide hown
    have HB := hide hb
    have HDr := hide hdr
    clear hty hlt64 hown hb hdr HX HAt HL1
    by_cases hlt : j < u
    · have l1' : (j : Int) < (u : Int) := by omega
      have l0 : (0 : Int) ≤ (j : Int) := by omega
      have la0 : (0 : Int) ≤ (at' : Int) := by omega
      have la1 : (at' : Int) ≤ (l.length : Int) := by omega
      have hw1 : IntKind.i64.wrap ((j : Int) + 1) = (j : Int) + 1 := by rw [IntKind.wrap_i64]; omega
      have hljl : lj.length ≤ l.length := by rw [← HDr.out, List.length_drop]; omega
      obtain ⟨Lj, hLj⟩ : ∃ L : ByteArray, (⟨lj.toArray⟩ : ByteArray) = L := ⟨_, rfl⟩
      have hex : S.extract at' l.length = Lj := by rw [← HSS.out, drop_take, HDr.out, hLj]
      have hVj := rvarint_any lj (Nat.le_trans hljl HLs.out)
      rw [hLj] at hVj
      obtain ⟨t, ht⟩ : ∃ t, vrdU lj = t := ⟨_, rfl⟩
      obtain ⟨m, hm⟩ : ∃ m, vrdN lj = m := ⟨_, rfl⟩
      rw [ht, hm] at hVj
      have HVj := hide hVj
      clear hVj hLj
      by_cases h0 : m = 0
      · have HNo := hide (HIn.out (HTy.out.stop hlt (by rw [hm, h0])))
        subst h0
        clear ht hm
        go_wp2_with (first
          | (go_at_call 8; (with_reducible refine Calls.mono (HVj.out _) ?_); rintro e w1 ⟨rfl, hb⟩; have HX := hide (below_trans HB.out hb); clear hb))
        go_ret2
        exact rpost_bad HNo.out HX.out
      · obtain ⟨v1, v2, v3, v4⟩ := vrd_take (l := lj) (by rw [hm]; exact h0)
        rw [hm] at v2
        rw [ht] at v3
        have HT64 := hide v3
        have gm : ((m : Int) == 0) = false := by simp; omega
        have lm0 : (0 : Int) ≤ (m : Int) := by omega
        have hlen : lj.length = l.length - at' := by rw [← HDr.out, List.length_drop]
        have hsum : at' + m ≤ l.length := by omega
        have hw2 : IntKind.i64.wrap ((at' : Int) + (m : Int)) = ((at' + m : Nat) : Int) := by rw [IntKind.wrap_i64]; have := HLs.out; omega
        have hnx := HTy.out.next hlt (by rw [hm]; exact h0)
        rw [ht, hm] at hnx
        have HNx := hide hnx
        have HDr2 : Hid (l.drop (at' + m) = lj.drop m) := by show _ = _; rw [← HDr.out, List.drop_drop]
        have HSm := hide hsum
        have HNb := hide (show (j + 1) * 8 ≤ 140737488355328 by have := HU.out; omega)
        clear v1 v2 v3 v4 ht hm h0 hlen hnx hsum
        go_wp2_with (first
          | (go_at_call 8; (with_reducible refine Calls.mono (HVj.out _) ?_); rintro e w1 ⟨rfl, hb⟩; have HX := hide (below_trans HB.out hb); have HO1 := hide (own_later HOw.out hb); clear hb)
          | (at_builtin; refine wp_appU (own_alloc HO1.out _) (m := 1) (news := [.int .u64 (t : Int)]) rfl (one_cell w1 _ _) (one_u64 _) HNb.out (bl_more HX.out _).size _ _ (by rfl) (by rfl) (by rfl) (by rfl) ?_; intro v2 w2 ho hiff hk; have HB2 := hide (hk _ (bl_more HX.out _)); have HO2 := hide ho; clear ho hk hiff))
        refine ⟨⟨j + 1, at' + m, done ++ [t], lj.drop m, hlt, rfl, rfl, HSm.out, HDr2.out, HNx.out, fun x hx => ?_, by rw [u64L_snoc]; exact HO2.out, HB2.out⟩, ?_⟩
        · rcases List.mem_append.1 hx with h | h
          · exact H64.out x h
          · rw [List.mem_singleton.1 h]; exact HT64.out
        · simp only [intOf]; omega
    · have l1' : ¬ (j : Int) < (u : Int) := by omega
      obtain rfl : u = j := by omega
      have hD := HTy.out.1
      have HD := hide hD
      have HI2 := hide (HI.out HTy.out.all)
      obtain ⟨p, c, he, hcells⟩ := own_u64 HOw.out hD.symm
      rw [hD] at he hcells
      subst he
      have HTc : Hid (∀ V, Below wr.heap.size wr V → ∀ j, j < u → ∃ g, p = some ⟨g, 0, none⟩ ∧ V.cell? ⟨g, j, none⟩ = some (.int .u64 ((done.getD j 0 : Nat) : Int))) := fun V hV j hj => let ⟨g, h1, h2⟩ := hcells j hj; ⟨g, h1, cell_later hV h2⟩
      have HAt := hide hat
      clear hD hcells hat HOw HIn HI
      obtain ⟨W2, hW2⟩ : ∃ W2, W2 = wr := ⟨_, rfl⟩
      subst hW2
      go_wp2_with fail
      go_loopw [5, 10, 11] (fun av rv iv wx => ∃ (j at' : Nat) (vs : List Val3) (lv : List UInt8), j ≤ u ∧ iv = .int .i64 (j : Int) ∧ av = .int .i64 (at' : Int) ∧ at' ≤ l.length ∧ l.drop at' = lv ∧ VaAt rvV done lj j vs lv ∧ (∀ v ∈ vs, InI v.2.1) ∧ wx.ownsRow W2.heap.size 46 3 rv j (vcL vs) ∧ Below W2.heap.size W2 wx) (fun _ _ iv _ => u - (intOf iv).toNat)
      case atStart => exact ⟨0, at', [], lj, Nat.zero_le _, rfl, rfl, HAt.out, HDr.out, VaAt.zero _ _, fun v hv => (by cases hv), World.ownsRow_nil _ _ _ _, Below.refl _ _⟩
      case round =>
        clear hj hlt HAt HDr
        obtain ⟨j, at', vs, lv, hj, rfl, rfl, hat, hdr, hva, hini, hown, hb⟩ := hrel
        have HVa := hide hva
        have HIni := hide hini
        have HOw := hide hown
        have HBx := hide hb
        have HBw := hide (HB.out.trans (hb.mono HB.out.size))
        have HDr := hide hdr
        clear hva hini hown hb hdr
        by_cases hlt : j < u
        · have l1' : (j : Int) < (u : Int) := by omega
          have l0 : (0 : Int) ≤ (j : Int) := by omega
          have la0 : (0 : Int) ≤ (at' : Int) := by omega
          have la1 : (at' : Int) ≤ (l.length : Int) := by omega
          have hw1 : IntKind.i64.wrap ((j : Int) + 1) = (j : Int) + 1 := by rw [IntKind.wrap_i64]; omega
          have hlvl : lv.length ≤ l.length := by rw [← HDr.out, List.length_drop]; omega
          obtain ⟨Lv, hLv⟩ : ∃ L : ByteArray, (⟨lv.toArray⟩ : ByteArray) = L := ⟨_, rfl⟩
          have hex : S.extract at' l.length = Lv := by rw [← HSS.out, drop_take, HDr.out, hLv]
          obtain ⟨t, ht⟩ : ∃ t, done.getD j 0 = t := ⟨_, rfl⟩
          have ht64 : t < 18446744073709551616 := by
            rw [← ht, ← List.getElem_eq_getD (h := by rw [HD.out]; exact hlt)]
            exact H64.out _ (List.getElem_mem _)
          have hrv := rvalue_any t ht64 Lv (by rw [← hLv, szL]; exact Nat.le_trans hlvl HLs.out)
          obtain ⟨g, hg, _⟩ := HTc.out wr HBx.out j hlt
          subst hg
          have HS : Hid (∀ V, Below W2.heap.size W2 V → V.cell? ⟨g, j, none⟩ = some (.int .u64 (t : Int))) := fun V hV => by
            obtain ⟨g', h1, h2⟩ := HTc.out V hV j hlt
            cases h1
            rw [ht] at h2
            exact h2
          have HBD : Hid (Below W2.heap.size W2 wr.drew) := HBx.out.drew
          have HWD : Hid (Below w.heap.size w wr.drew) := HBw.out.drew
          have HOD : Hid (wr.drew.ownsRow W2.heap.size 46 3 u10 j (vcL vs)) := own_later HOw.out ((Below.refl _ _).drew)
          have HS : Hid (∀ V, Below wr.heap.size wr V → V.cell? ⟨g, j, none⟩ = some (.int .u64 (t : Int))) := fun V hV => HS.out V (HBx.out.trans (hV.mono HBx.out.size))
          have HR0 : Hid (Below wr.heap.size wr wr.drew) := (Below.refl _ _).drew
          have HR1 : Hid (Below wr.heap.size wr (wr.alloc nilv).drew) := (new_below wr nilv rfl).drew
          cases hrr : rvV t Lv with
          | none =>
            have HN : Hid (∀ V, Calls Try.prog 32 #[.int .u64 (t : Int), .string Lv] V fun e w' => e = .returned (.tuple #[val 0 0 ⟨#[]⟩, .int .i64 (-1)]) ∧ Below V.heap.size V w') := fun V => (hrv V).2 hrr
            have HNo := hide (rdAll_no (HI2.out.trans (HVa.out.stop (by rw [HD.out]; exact hlt) (by rw [ht, hLv]; exact hrr))))
            clear hrv ht64 ht hrr hLv HBD HWD HOD
            go_upto_region 17 with fail
            go_cut [12, 13] from 49 to 74 (fun v12 v13 V => ∃ b, v12 = .pointer (some ⟨b, 0, none⟩) ∧ v13 = .int .i64 (-1) ∧ V.heap[b]? = some (.cells #[.int .i64 0, .int .i64 0, .string ⟨#[]⟩] 46 (0, 0)) ∧ Below wr.heap.size wr V)
            case first =>
              go_region_held3 (fun V => V.cell? ⟨g, j, none⟩ = some (.int .u64 (t : Int))) (first | with_reducible exact HS.out _ HR0.out | with_reducible exact HS.out _ HR1.out | with_reducible exact HS.out _ HX1.out | with_reducible exact HS.out _ (bl_al HX1.out _) | with_reducible exact HS.out _ (bl_st HX1.out _ _) | with_reducible exact HS.out _ (bl_st3 HX1.out _ _ _)) (first
                | (go_at_call 32; (with_reducible refine Calls.mono (HN.out _) ?_); rintro e w1 ⟨rfl, hb⟩; have HX1 := hide (below_trans HR0.out hb); clear hb)
                | (go_at_call 32; (with_reducible refine Calls.mono (HN.out _) ?_); rintro e w1 ⟨rfl, hb⟩; have HX1 := hide (below_trans HR1.out hb); have HK1 := hide (nil_later hb); obtain ⟨d0, d1, d2, f0, f1, f2⟩ := res_facts HK1.out; clear hb))
              all_goals (try go_wp2_with fail)
              all_goals go_meet
              all_goals first
                | exact ⟨_, rfl, rfl, blk_new w1 _, bl_al HX1.out _⟩
                | exact ⟨_, rfl, rfl, set3 HK1.out _ _ _, bl_st3 HX1.out _ _ _⟩
            case rest =>
              obtain ⟨b, rfl, rfl, hbb, hbx⟩ := hcut
              have HX := hide (below_trans HBw.out hbx)
              clear hbb hbx
              go_wp2_with fail
              go_ret2
              exact rpost_bad HNo.out HX.out
          | some q =>
            obtain ⟨k, i, A, m⟩ := q
            have HN : Hid (∀ V, Calls Try.prog 32 #[.int .u64 (t : Int), .string Lv] V fun e w' => e = .returned (.tuple #[val k i A, .int .i64 (m : Int)]) ∧ Below V.heap.size V w') := fun V => (hrv V).1 k i A m hrr
            have hnx := HVa.out.next (by rw [HD.out]; exact hlt) (by rw [ht, hLv]; exact hrr)
            have hin := rvV_in hrr
            have hms : m ≤ lv.length := by have := hin.2; rw [← hLv, szL] at this; exact this
            have hlen : lv.length = l.length - at' := by rw [← HDr.out, List.length_drop]
            have hsum : at' + m ≤ l.length := by omega
            have hw2 : IntKind.i64.wrap ((at' : Int) + (m : Int)) = ((at' + m : Nat) : Int) := by rw [IntKind.wrap_i64]; have := HLs.out; omega
            have lm0 : (0 : Int) ≤ (m : Int) := by omega
            have HNx := hide hnx
            have HIn2 := hide hin.1
            have HDr2 : Hid (l.drop (at' + m) = lv.drop m) := by show _ = _; rw [← HDr.out, List.drop_drop]
            have HSm := hide hsum
            have HNb := hide (show (j + 1) * 32 ≤ 140737488355328 by have := HU.out; omega)
            clear hrv ht64 ht hrr hLv HBD HWD HOD hnx hin hms hlen hsum
            go_upto_region 17 with fail
            go_cut [12, 13] from 49 to 74 (fun v12 v13 V => ∃ b, v12 = .pointer (some ⟨b, 0, none⟩) ∧ v13 = .int .i64 (m : Int) ∧ V.heap[b]? = some (.cells #[.int .i64 k, .int .i64 i, .string A] 46 (0, 0)) ∧ Below wr.heap.size wr V)
            case first =>
              go_region_held3 (fun V => V.cell? ⟨g, j, none⟩ = some (.int .u64 (t : Int))) (first | with_reducible exact HS.out _ HR0.out | with_reducible exact HS.out _ HR1.out | with_reducible exact HS.out _ HX1.out | with_reducible exact HS.out _ (bl_al HX1.out _) | with_reducible exact HS.out _ (bl_st HX1.out _ _) | with_reducible exact HS.out _ (bl_st3 HX1.out _ _ _)) (first
                | (go_at_call 32; (with_reducible refine Calls.mono (HN.out _) ?_); rintro e w1 ⟨rfl, hb⟩; have HX1 := hide (below_trans HR0.out hb); clear hb)
                | (go_at_call 32; (with_reducible refine Calls.mono (HN.out _) ?_); rintro e w1 ⟨rfl, hb⟩; have HX1 := hide (below_trans HR1.out hb); have HK1 := hide (nil_later hb); obtain ⟨d0, d1, d2, f0, f1, f2⟩ := res_facts HK1.out; clear hb))
              all_goals (try go_wp2_with fail)
              all_goals go_meet
              all_goals first
                | exact ⟨_, rfl, rfl, blk_new w1 _, bl_al HX1.out _⟩
                | exact ⟨_, rfl, rfl, set3 HK1.out _ _ _, bl_st3 HX1.out _ _ _⟩
            case rest =>
              obtain ⟨b, rfl, rfl, hbb, hbx⟩ := hcut
              obtain ⟨W4, hW4⟩ : ∃ v, v = wc := ⟨_, rfl⟩
              subst hW4
              obtain ⟨d0, d1, d2, f0, f1, f2⟩ := res_facts hbb
              have HX := hide (below_trans HBx.out hbx)
              have HX : Hid (Below W2.heap.size W2 W4) := HBx.out.trans (hbx.mono HBx.out.size)
              have HO1 := hide (own_later HOw.out hbx)
              clear hbb hbx
              go_wp2_with (first
                | (at_builtin; refine wp_appV (own_alloc HO1.out _) (m := 1) (news := [.int .i64 k, .int .i64 i, .string A]) rfl (three_cells W4 _ _ _ _) (three_one _ _ _) HNb.out (bl_al2 HX.out _).size _ _ (by rfl) (by rfl) (by rfl) (by rfl) ?_; intro v2 w2 ho hiff hk; have HB2 := hide (hk _ (bl_al2 HX.out _)); have HO2 := hide ho; clear ho hk hiff))
              refine ⟨⟨j + 1, at' + m, vs ++ [(k, i, A)], lv.drop m, hlt, rfl, rfl, HSm.out, HDr2.out, HNx.out, fun x hx => ?_, by rw [vcL_snoc]; exact HO2.out, HB2.out⟩, ?_⟩
              · rcases List.mem_append.1 hx with h | h
                · exact HIni.out x h
                · rw [List.mem_singleton.1 h]; exact HIn2.out
              · simp only [intOf]; omega
        · have l1' : ¬ (j : Int) < (u : Int) := by omega
          obtain rfl : u = j := by omega
          have hall := HVa.out
          have hvl : vs.length = u := hall.1
          rw [← HD.out] at hall
          have HFin := hide (HI2.out.trans hall.all)
          obtain ⟨q, cq, he, hrow⟩ := own_rowP HOw.out hvl.symm
          subst he
          obtain ⟨x, E, hre⟩ := renc_is vs.length (KV vs) (NV vs) (TV vs) (by have := HU.out; omega) (InI_NV HIni.out)
          have HRe := hide (hre.call q cq wr hrow)
          have hok := hre.ok
          have htx := hre.text
          rw [rowV_of] at hok htx
          have HRow := hide hrow
          have HOk := hide hok
          have HTx := hide htx
          clear hall hre hrow hok htx
          cases hra : rdAll l with
          | some vs2 =>
            have e2 := rv_all.1 vs2 hra
            rw [HFin.out] at e2
            simp only [Option.some.injEq, Prod.mk.injEq] at e2
            obtain ⟨rfl, -⟩ := e2
            obtain ⟨h4, h16, hokv, hen⟩ := (rdAll_iff l vs).1 hra
            have hE0 : E = 0 := HOk.out.2 ⟨h16, hokv, by rw [hen]; exact h4⟩
            have hxS : x = S := by rw [HTx.out hE0, hen, HSS.out]
            subst hE0 hxS
            have HRa := hide hra
            clear h4 h16 hokv hen hra hvl
            go_wp2_with (first
              | (go_at_call 14; (with_reducible refine Calls.mono HRe.out ?_); rintro e w1 ⟨rfl, hb⟩; have HX := hide (below_trans HBw.out hb); have HRo := hide (HRow.out.later hb); clear hb))
            go_ret2
            exact ⟨fun vs3 h3 => (by rw [HRa.out] at h3; cases h3; exact ⟨_, _, rfl, HRo.out, HX.out⟩), fun h3 => (by rw [HRa.out] at h3; cases h3)⟩
          | none =>
            have HRa := hide hra
            by_cases hE0 : E = 0
            · have hxS : x ≠ S := fun e => by
                obtain ⟨h16, hokv, h4⟩ := HOk.out.1 hE0
                refine rv_all.2 hra vs _ HFin.out ⟨h16, hokv, h4, ?_⟩
                have := HTx.out hE0
                rw [e, ← HSS.out] at this
                simpa using this.symm
              obtain ⟨n0, n1, n2⟩ := ne_forms hxS
              subst hE0
              clear hra hvl hxS
              go_wp2_with (first
                | (go_at_call 14; (with_reducible refine Calls.mono HRe.out ?_); rintro e w1 ⟨rfl, hb⟩; have HX := hide (below_trans HBw.out hb); clear hb))
              go_ret2
              exact rpost_bad HRa.out HX.out
            · have gE : (E == 0) = false := by simp [hE0]
              have gE2 : (E != 0) = true := by simp [hE0]
              clear hra hvl
              go_wp2_with (first
                | (go_at_call 14; (with_reducible refine Calls.mono HRe.out ?_); rintro e w1 ⟨rfl, hb⟩; have HX := hide (below_trans HBw.out hb); clear hb))
              go_ret2
              exact rpost_bad HRa.out HX.out
end Go.Proofs.Ytfjmoiooonialaa
