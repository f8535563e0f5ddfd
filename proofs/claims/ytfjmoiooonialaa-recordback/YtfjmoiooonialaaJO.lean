/- The reader's row of any bytes. -/
import Derived.Test.YtfjmoiooonialaaJN
import Derived.LoopN
namespace Go.Proofs.Ytfjmoiooonialaa
open Go.ChangeShapes Go.WideShapes Go.ChangeAt Go.RowKit
set_option linter.unusedVariables false

theorem Rd.trans {p : Nat} {w w1 w2 : World} {s t : ByteArray} (h1 : Rd p w w1 s) (h2 : Rd p w1 w2 t) : Rd p w w2 t where
  cell := h2.cell
  free := h2.free
  keep := fun k hk hne => (h2.keep k (Nat.lt_of_lt_of_le hk h1.below.size) hne).trans (h1.keep k hk hne)
  below := h1.below.trans h2.below
theorem Rd.own {p : Nat} {w w1 : World} {s : ByteArray} (h1 : Rd p w w1 s) {g i : Nat} (hg : w.heap.size ≤ g) (hp : p < w.heap.size) (v : Value) : Rd p w (w1.setCell ⟨g, i, none⟩ v) s where
  cell := by
    rw [World.cell?_of_block (w := w1) (Below.heap_setCell _ _ _ _ (by show p ≠ g; omega))]
    exact h1.cell
  free := frozen_block (Below.heap_setCell _ _ _ _ (by show p ≠ g; omega)) h1.free
  keep := fun k hk hne => (Below.heap_setCell _ _ _ _ (by show k ≠ g; omega)).trans (h1.keep k hk hne)
  below := h1.below.setCell (by show p ≤ g; omega) _
theorem Rd.size {p : Nat} {w w1 : World} {s : ByteArray} (h1 : Rd p w w1 s) : w.heap.size ≤ w1.heap.size := h1.below.size
theorem rowpost_bad {l : List UInt8} {p : Nat} {w w' : World} (h : rowRd l = none) (hb : Below p w w') :
    (∀ vs r, rowRd l = some (vs, r) → ∃ g, Ending.panicked badP = .returned (.slice (some ⟨g, 0, none⟩) vs.length vs.length) ∧ w.heap.size ≤ g ∧ RowAt w' g 0 vs.length (KV vs) (NV vs) (TV vs) ∧ Rd p w w' ⟨r.toArray⟩) ∧ (rowRd l = none → Ending.panicked badP = .panicked badP ∧ Below p w w') :=
  ⟨fun vs r h' => (by rw [h] at h'; cases h'), fun _ => ⟨rfl, hb⟩⟩
theorem u64_info : ∃ i, Try.prog.info? 22 = some i ∧ i.zero = some (.int .u64 0) ∧ i.size = 1 ∧ i.bytes = 8 := by
  have h : (Try.prog.info? 22).map (fun i => (i.zero, i.size, i.bytes)) = some (some (.int .u64 0), 1, 8) := by kernel_rfl
  obtain ⟨i, h1, h2⟩ := Option.map_eq_some_iff.1 h
  simp only [Prod.mk.injEq] at h2
  exact ⟨i, h1, h2.1, h2.2.1, h2.2.2⟩
theorem make_u64 (n : Nat) (hn : n ≤ 16) (V : World) : (Instr.makeSlice 59 (.int .u64 (n : Int)) (.int .u64 (n : Int))).run Try.prog V = .ok (.slice (some ⟨V.heap.size, 0, none⟩) n n) (V.alloc (.cells (madeCells #[.int .u64 0] n) 22)) := by
  obtain ⟨i, hi, hz, hsz, hby⟩ := u64_info
  have := run_make (P := Try.prog) V 59 22 i (.int .u64 0) Try.underlying59 hi hz .u64 .u64 (n : Int) (n : Int) (by omega) (Int.le_refl _) (by rw [hby]; omega) (by omega)
  simpa [hsz, Value.cells] using this
theorem make_vals (n : Nat) (hn : n ≤ 16) (V : World) : (Instr.makeSlice 31 (.int .u64 (n : Int)) (.int .u64 (n : Int))).run Try.prog V = .ok (.slice (some ⟨V.heap.size, 0, none⟩) n n) (V.alloc (.cells (madeCells #[.int .i64 0, .int .i64 0, .string ⟨#[]⟩] (n * 3)) 46)) := by
  obtain ⟨i, hi, hz, hsz, hby⟩ := infoV3
  have := run_make (P := Try.prog) V 31 46 i _ Try.underlying31 hi hz .u64 .u64 (n : Int) (n : Int) (by omega) (Int.le_refl _) (by rw [hby]; omega) (by omega)
  simpa [hsz, Value.cells] using this
theorem get_some {cur : Array Value} {n j : Nat} (h : cur.size = n) (hj : j < n) : ∃ v, cur[j]? = some v := ⟨cur[j]'(by omega), by simp [h, hj]⟩
theorem keepB {p : Nat} {w w' : World} {s : ByteArray} (h : Rd p w w' s) {g : Nat} {ob : Obj} (hg : w.heap[g]? = some ob) (hne : g ≠ p) : w'.heap[g]? = some ob := by
  rw [h.keep g (Array.getElem?_eq_some_iff.1 hg).1 hne]; exact hg

theorem keep3 {w : World} {a g : Nat} (hne : a ≠ g) {ob : Obj} (h : w.heap[a]? = some ob) (i j k : Nat) (x y z : Value) : (((w.setCell ⟨g, i, none⟩ x).setCell ⟨g, j, none⟩ y).setCell ⟨g, k, none⟩ z).heap[a]? = some ob := by
  rw [Below.heap_setCell _ _ _ _ (by show a ≠ g; exact hne), Below.heap_setCell _ _ _ _ (by show a ≠ g; exact hne), Below.heap_setCell _ _ _ _ (by show a ≠ g; exact hne)]
  exact h
theorem row3 {cv : Array Value} {u j : Nat} {vs : List Val3} {k n : Int} {A : ByteArray} (hsz : cv.size = u * 3) (hlt : j < u) (hd : vs.length = j) (hcv : ∀ i, i < j → cv[i * 3]? = some (.int .i64 (KV vs i)) ∧ cv[i * 3 + 1]? = some (.int .i64 (NV vs i)) ∧ cv[i * 3 + 2]? = some (.string (TV vs i))) :
    ∀ i, i < j + 1 → (((cv.setIfInBounds (j * 3) (.int .i64 k)).setIfInBounds (j * 3 + 1) (.int .i64 n)).setIfInBounds (j * 3 + 2) (.string A))[i * 3]? = some (.int .i64 (KV (vs ++ [(k, n, A)]) i)) ∧
      (((cv.setIfInBounds (j * 3) (.int .i64 k)).setIfInBounds (j * 3 + 1) (.int .i64 n)).setIfInBounds (j * 3 + 2) (.string A))[i * 3 + 1]? = some (.int .i64 (NV (vs ++ [(k, n, A)]) i)) ∧
      (((cv.setIfInBounds (j * 3) (.int .i64 k)).setIfInBounds (j * 3 + 1) (.int .i64 n)).setIfInBounds (j * 3 + 2) (.string A))[i * 3 + 2]? = some (.string (TV (vs ++ [(k, n, A)]) i)) := by
  intro i hi
  by_cases e : i = j
  · subst e
    obtain ⟨_, e0, e1, e2⟩ := KV_snoc vs (k, n, A) 0
    rw [hd] at e0 e1 e2
    rw [e0, e1, e2]
    refine ⟨?_, ?_, ?_⟩
    · rw [Array.getElem?_setIfInBounds_ne (by omega), Array.getElem?_setIfInBounds_ne (by omega), Array.getElem?_setIfInBounds_self_of_lt (by omega)]
    · rw [Array.getElem?_setIfInBounds_ne (by omega), Array.getElem?_setIfInBounds_self_of_lt (by simp; omega)]
    · rw [Array.getElem?_setIfInBounds_self_of_lt (by simp; omega)]
  · obtain ⟨h0, h1, h2⟩ := hcv i (by omega)
    obtain ⟨e0, e1, e2⟩ := (KV_snoc vs (k, n, A) i).1 (by omega)
    rw [e0, e1, e2]
    refine ⟨?_, ?_, ?_⟩
    · rw [Array.getElem?_setIfInBounds_ne (by omega), Array.getElem?_setIfInBounds_ne (by omega), Array.getElem?_setIfInBounds_ne (by omega), h0]
    · rw [Array.getElem?_setIfInBounds_ne (by omega), Array.getElem?_setIfInBounds_ne (by omega), Array.getElem?_setIfInBounds_ne (by omega), h1]
    · rw [Array.getElem?_setIfInBounds_ne (by omega), Array.getElem?_setIfInBounds_ne (by omega), Array.getElem?_setIfInBounds_ne (by omega), h2]

set_option maxHeartbeats 4000000 in
set_option maxRecDepth 10000 in
theorem readRow_any (p : Nat) (l : List UInt8) (hs : l.length ≤ 4000) (w : World) (hp : p < w.heap.size) (hc : w.cell? ⟨p, 0, none⟩ = some (.string ⟨l.toArray⟩)) (hf : w.frozen? ⟨p, 0, none⟩ = false) :
    Calls Try.prog 29 #[varF p, takeF p] w fun e w' => (∀ vs r, rowRd l = some (vs, r) → ∃ g, e = .returned (.slice (some ⟨g, 0, none⟩) vs.length vs.length) ∧ w.heap.size ≤ g ∧ RowAt w' g 0 vs.length (KV vs) (NV vs) (TV vs) ∧ Rd p w w' ⟨r.toArray⟩) ∧ (rowRd l = none → e = .panicked badP ∧ Below p w w') := by
  by_cases hz : vrdN l = 0
  · have HN := hide (rvar_no p ⟨l.toArray⟩ (by rw [szL]; omega) (by rw [toL]; exact hz) w hc)
    have HNo := hide (rowRd_no (Or.inl hz))
    have HB := hide (Below.refl p w)
    clear hz hs hc hf
    go_enter Try.func29, Try.ntmps29
    go_wp2_with (first
      | (go_at_call 30; with_reducible refine Calls.mono HN.out ?_; rintro e w2 ⟨rfl, rfl⟩))
    exact ⟨rfl, rowpost_bad HNo.out HB.out⟩
  obtain ⟨v1, v2, v3, v4⟩ := vrd_take hz
  obtain ⟨u, hu⟩ : ∃ u, vrdU l = u := ⟨_, rfl⟩
  obtain ⟨n, hn⟩ : ∃ n, vrdN l = n := ⟨_, rfl⟩
  have HV := hide (rvar_walk p ⟨l.toArray⟩ u n (by rw [szL]; omega) (by rw [toL]; exact hu) (by rw [toL]; exact hn) (by omega) (by rw [szL]; omega) w hc hf)
  rw [extL] at HV
  obtain ⟨l1, hl1⟩ : ∃ l1, l.drop n = l1 := ⟨_, rfl⟩
  rw [hl1] at HV
  have hl1s : l1.length ≤ 4000 := by rw [← hl1, List.length_drop]; omega
  have HR1 : Hid (Rd p w (w.setCell ⟨p, 0, none⟩ (.string ⟨l1.toArray⟩)) ⟨l1.toArray⟩) := Rd.of_set hp hc hf (Below.refl _ _)
  by_cases h16 : 16 < u
  · have l16 : decide ((u : Int) ≤ 16) = false := by simp; omega
    have HNo := hide (rowRd_no (l := l) (Or.inr (by rw [hu]; exact h16)))
    have HB := hide HR1.out.below
    clear hz hs hc hf v1 v2 v3 v4 hu hn hl1 hl1s h16 HR1
    go_enter Try.func29, Try.ntmps29
    go_wp2_with (first
      | (go_at_call 30; with_reducible refine Calls.mono HV.out ?_; rintro e w2 ⟨rfl, rfl⟩)
      | (go_at_call 28; with_reducible refine Calls.mono (must_no _) ?_; rintro e w3 ⟨rfl, rfl⟩))
    exact ⟨rfl, rowpost_bad HNo.out HB.out⟩
  have l16 : (u : Int) ≤ 16 := by omega
  have HI : Hid (∀ {ts : List Nat} {r : List UInt8}, rdT u l1 = some (ts, r) → rowRd l = rdF rdV ts r) := fun {ts r} h => rowRd_R (by rw [hu, hn]; omega) (by rw [hu, hn, hl1]; exact h)
  have HIn : Hid (rdT u l1 = none → rowRd l = none) := fun h => rowRd_T (by rw [hu, hn, hl1]; exact h)
  have HSz := hide hl1s
  have HU := hide (show u ≤ 16 by omega)
  have HP := hide hp
  have hmk := make_u64 u (by omega)
  have HMv := hide (make_vals u (by omega))
  obtain ⟨W1, hW1⟩ : ∃ W, w.setCell ⟨p, 0, none⟩ (.string ⟨l1.toArray⟩) = W := ⟨_, rfl⟩
  have hs1 : W1.heap.size = w.heap.size := by rw [← hW1]; simp
  rw [hW1] at HV HR1
  have HS1 := hide hs1
  clear hz hs hc hf v1 v2 v3 v4 hu hn hl1 hl1s h16 hW1 hs1 hp
  go_enter Try.func29, Try.ntmps29
  go_wp2_with (first
    | (go_at_call 30; with_reducible refine Calls.mono HV.out ?_; rintro e w2 ⟨rfl, rfl⟩)
    | (go_at_call 28; with_reducible refine Calls.mono (must_yes _) ?_; rintro e w3 ⟨rfl, rfl⟩))
  go_name_world W2 hW2
  have hg : W2.heap[w.heap.size]? = some (.cells (madeCells #[.int .u64 0] u) 22 (0, 0)) := by
    rw [← hW2, ← HS1.out]; exact heap_alloc_new _ _
  have HR2 : Hid (Rd p w W2 ⟨l1.toArray⟩) := by
    rw [← hW2]
    exact HR1.out.trans (Rd.of_below (by rw [HS1.out]; exact HP.out) HR1.out.cell HR1.out.free (new_below _ _ rfl))
  have HG := hide hg
  rw [HS1.out]
  clear hW2 hg HR1 HV hmk HS1
  go_loopw [20] (fun iv wr => ∃ (j : Nat) (done : List Nat) (lj : List UInt8) (cur : Array Value), j ≤ u ∧ iv = .int .i64 (j : Int) ∧ TyAt u l1 j done lj ∧ (∀ t ∈ done, t < 18446744073709551616) ∧ lj.length ≤ 4000 ∧ Rd p w wr ⟨lj.toArray⟩ ∧ wr.heap[w.heap.size]? = some (.cells cur 22 (0, 0)) ∧ cur.size = u ∧ (∀ i, i < j → cur[i]? = some (.int .u64 ((done.getD i 0 : Nat) : Int)))) (fun iv _ => u - (intOf iv).toNat)
  case atStart => exact ⟨0, [], l1, _, Nat.zero_le _, rfl, TyAt.zero _ _, fun t ht => (by cases ht), HSz.out, HR2.out, HG.out, size_madeCells _ _, fun i hi => by omega⟩
  case round =>
    obtain ⟨j, done, lj, cur, hj, rfl, hty, hlt64, hljs, hrd, hblk, hcs, hcur⟩ := hrel
    have HTy := hide hty
    have H64 := hide hlt64
    have HLj := hide hljs
    have HRd := hide hrd
    have HBk := hide hblk
    have HCs := hide hcs
    have HCu := hide hcur
    clear hty hlt64 hljs hrd hblk hcs hcur HR2 HG HSz
    by_cases hlt : j < u
    · have l1' : (j : Int) < (u : Int) := by omega
      have l0 : (0 : Int) ≤ (j : Int) := by omega
      have hw1 : IntKind.i64.wrap ((j : Int) + 1) = (j : Int) + 1 := by rw [IntKind.wrap_i64]; omega
      by_cases hz : vrdN lj = 0
      · have HN := hide (rvar_no p ⟨lj.toArray⟩ (by rw [szL]; exact Nat.le_trans HLj.out (by decide)) (by rw [toL]; exact hz) wr HRd.out.cell)
        have HNo := hide (HIn.out (HTy.out.stop hlt hz))
        clear hz
        go_wp2_with (first
          | (go_at_call 30; with_reducible refine Calls.mono HN.out ?_; rintro e w2 ⟨rfl, rfl⟩))
        exact ⟨rfl, rowpost_bad HNo.out HRd.out.below⟩
      · obtain ⟨v1, v2, v3, v4⟩ := vrd_take hz
        obtain ⟨t, ht⟩ : ∃ t, vrdU lj = t := ⟨_, rfl⟩
        obtain ⟨m, hm⟩ : ∃ m, vrdN lj = m := ⟨_, rfl⟩
        have hV := rvar_walk p ⟨lj.toArray⟩ t m (by rw [szL]; exact Nat.le_trans HLj.out (by decide)) (by rw [toL]; exact ht) (by rw [toL]; exact hm) (by omega) (by rw [szL]; omega) wr HRd.out.cell HRd.out.free
        rw [extL] at hV
        have hnx := HTy.out.next hlt hz
        rw [ht, hm] at hnx
        obtain ⟨l2, hl2⟩ : ∃ l2, lj.drop m = l2 := ⟨_, rfl⟩
        rw [hl2] at hV hnx
        have HV := hide hV
        have HNx := hide hnx
        have HL2 : Hid (l2.length ≤ 4000) := by show _ ≤ _; rw [← hl2, List.length_drop]; have := HLj.out; omega
        have HT64 := hide (show t < 18446744073709551616 by omega)
        obtain ⟨V, hVw⟩ : ∃ V, wr.setCell ⟨p, 0, none⟩ (.string ⟨l2.toArray⟩) = V := ⟨_, rfl⟩
        rw [hVw] at HV
        have hRV : Rd p wr V ⟨l2.toArray⟩ := by
          rw [← hVw]
          exact Rd.of_set (Nat.lt_of_lt_of_le HP.out HRd.out.size) HRd.out.cell HRd.out.free (Below.refl _ _)
        have HRV := hide (HRd.out.trans hRV)
        have HB2 := hide (keepB hRV HBk.out (by have := HP.out; omega))
        obtain ⟨old, hold⟩ := get_some HCs.out hlt
        have d0 := (block_cell HB2.out j).trans hold
        have f0 := block_frozen HB2.out j
        clear hz v1 v2 v3 v4 ht hm hl2 hV hnx hVw hRV hold
        go_wp2_with (first
          | (go_at_call 30; with_reducible refine Calls.mono HV.out ?_; rintro e w2 ⟨rfl, rfl⟩))
        refine ⟨⟨j + 1, done ++ [t], l2, _, hlt, rfl, HNx.out, fun x hx => ?_, HL2.out, HRV.out.own (Nat.le_refl _) HP.out _, set_block HB2.out j _, by rw [Array.size_setIfInBounds]; exact HCs.out, fun i hi => ?_⟩, ?_⟩
        · rcases List.mem_append.1 hx with h | h
          · exact H64.out x h
          · rw [List.mem_singleton.1 h]; exact HT64.out
        · have hd := HTy.out.1
          by_cases e : i = j
          · subst e
            rw [Array.getElem?_setIfInBounds_self_of_lt (by rw [HCs.out]; exact hlt)]
            simp [← hd]
          · rw [Array.getElem?_setIfInBounds_ne (fun h => e h.symm), HCu.out i (by omega)]
            simp [List.getElem?_append_left (show i < done.length by omega)]
        · simp only [intOf]; omega
    · have l1' : ¬ (j : Int) < (u : Int) := by omega
      obtain rfl : u = j := by omega
      have HI2 := hide (HI.out HTy.out.all)
      have hD := HTy.out.1
      have HD := hide hD
      have hmk := HMv.out wr
      have hsz := Nat.lt_of_lt_of_le HP.out HRd.out.size
      clear hD
      go_wp2_with fail
      go_name_world W3 hW3
      have hg3 : W3.heap[wr.heap.size]? = some (.cells (madeCells #[.int .i64 0, .int .i64 0, .string ⟨#[]⟩] (u * 3)) 46 (0, 0)) := by
        rw [← hW3]; exact heap_alloc_new _ _
      have hR3 : Rd p wr W3 ⟨lj.toArray⟩ := by
        rw [← hW3]
        exact Rd.of_below hsz HRd.out.cell HRd.out.free (new_below _ _ rfl)
      have HG3 := hide hg3
      have HR3 := hide (HRd.out.trans hR3)
      have HB3 := hide (keepB hR3 HBk.out (by have := HP.out; omega))
      have HGs := hide (show w.heap.size < wr.heap.size from (Array.getElem?_eq_some_iff.1 HBk.out).1)
      obtain ⟨g, hgg⟩ : ∃ g, wr.heap.size = g := ⟨_, rfl⟩
      rw [hgg] at HG3 HGs
      rw [hgg]
      clear hW3 hg3 hR3 hmk hsz HRd HBk hgg
      go_loopw [33] (fun iv wr => ∃ (j : Nat) (vs : List Val3) (lv : List UInt8) (cv : Array Value), j ≤ u ∧ iv = .int .i64 (j : Int) ∧ VaAt rdV done lj j vs lv ∧ lv.length ≤ 4000 ∧ Rd p w wr ⟨lv.toArray⟩ ∧ wr.heap[w.heap.size]? = some (.cells cur 22 (0, 0)) ∧ wr.heap[g]? = some (.cells cv 46 (0, 0)) ∧ cv.size = u * 3 ∧ (∀ i, i < j → cv[i * 3]? = some (.int .i64 (KV vs i)) ∧ cv[i * 3 + 1]? = some (.int .i64 (NV vs i)) ∧ cv[i * 3 + 2]? = some (.string (TV vs i)))) (fun iv _ => u - (intOf iv).toNat)
      case atStart => exact ⟨0, [], lj, _, Nat.zero_le _, rfl, VaAt.zero _ _, HLj.out, HR3.out, HB3.out, HG3.out, size_madeCells _ _, fun i hi => by omega⟩
      case round =>
        clear hj
        obtain ⟨j, vs, lv, cv, hj, rfl, hva, hlvs, hrd, hblk, hbv, hvsz, hcv⟩ := hrel
        have HVa := hide hva
        have HLv := hide hlvs
        have HRd := hide hrd
        have HBk := hide hblk
        have HBv := hide hbv
        have HVs := hide hvsz
        have HCv := hide hcv
        clear hva hlvs hrd hblk hbv hvsz hcv HR3 HB3 HG3
        by_cases hlt : j < u
        · have l1' : (j : Int) < (u : Int) := by omega
          have l0 : (0 : Int) ≤ (j : Int) := by omega
          have hw1 : IntKind.i64.wrap ((j : Int) + 1) = (j : Int) + 1 := by rw [IntKind.wrap_i64]; omega
          obtain ⟨t, ht⟩ : ∃ t, done.getD j 0 = t := ⟨_, rfl⟩
          have c0 := (block_cell HBk.out j).trans (HCu.out j hlt)
          rw [ht] at c0
          have ht64 : t < 18446744073709551616 := by
            rw [← ht, ← List.getElem_eq_getD (h := by rw [HD.out]; exact hlt)]
            exact H64.out _ (List.getElem_mem _)
          have hrv := readValue_any t p ht64 ⟨lv.toArray⟩ (by rw [szL]; exact Nat.le_trans HLv.out (by decide)) wr (Nat.lt_of_lt_of_le HP.out HRd.out.size) HRd.out.cell HRd.out.free
          cases hrr : rdV t ⟨lv.toArray⟩ with
          | none =>
            have HN := hide (hrv.2 hrr)
            have HNo := hide (HI2.out.trans (HVa.out.stop (by rw [HD.out]; exact hlt) (by rw [ht]; exact hrr)))
            clear hrv ht64 ht hrr
            go_wp2_with (first
              | (go_at_call 38; with_reducible refine Calls.mono HN.out ?_; rintro e w2 ⟨rfl, hb2⟩; have HB2 := hide hb2; clear hb2))
            exact ⟨rfl, rowpost_bad HNo.out (HRd.out.below.trans HB2.out)⟩
          | some q =>
            obtain ⟨k, n, A, m⟩ := q
            have hV := hrv.1 k n A m hrr
            rw [extL] at hV
            have hnx := HVa.out.next (by rw [HD.out]; exact hlt) (by rw [ht]; exact hrr)
            obtain ⟨l2, hl2⟩ : ∃ l2, lv.drop m = l2 := ⟨_, rfl⟩
            rw [hl2] at hV hnx
            have HV := hide hV
            have HNx := hide hnx
            have HL2 : Hid (l2.length ≤ 4000) := by show _ ≤ _; rw [← hl2, List.length_drop]; have := HLv.out; omega
            obtain ⟨o0, ho0⟩ := get_some HVs.out (show j * 3 < u * 3 by omega)
            obtain ⟨o1, ho1⟩ := get_some HVs.out (show j * 3 + 1 < u * 3 by omega)
            obtain ⟨o2, ho2⟩ := get_some HVs.out (show j * 3 + 2 < u * 3 by omega)
            have HO := hide (And.intro ho0 (And.intro ho1 ho2))
            clear hrv ht64 ht hrr hV hnx hl2 ho0 ho1 ho2
            go_wp2_with (first
              | (go_at_call 38; with_reducible refine Calls.mono HV.out ?_; rintro e w2 ⟨rfl, hr2⟩; have HR2 := hide hr2; have HBk2 := hide (keepB hr2 HBk.out (Nat.ne_of_gt HP.out)); have HBv2 := hide (keepB hr2 HBv.out (Nat.ne_of_gt (Nat.lt_trans HP.out HGs.out))); have d0 := (block_cell HBv2.out (j * 3)).trans HO.out.1; have d1 := (block_cell HBv2.out (j * 3 + 1)).trans HO.out.2.1; have d2 := (block_cell HBv2.out (j * 3 + 2)).trans HO.out.2.2; have f0 := block_frozen HBv2.out (j * 3); have f1 := block_frozen HBv2.out (j * 3 + 1); have f2 := block_frozen HBv2.out (j * 3 + 2); clear hr2))
            refine ⟨⟨j + 1, vs ++ [(k, n, A)], l2, _, hlt, rfl, HNx.out, HL2.out, (((HRd.out.trans HR2.out).own (Nat.le_of_lt HGs.out) HP.out _).own (Nat.le_of_lt HGs.out) HP.out _).own (Nat.le_of_lt HGs.out) HP.out _, keep3 (Nat.ne_of_lt HGs.out) HBk2.out _ _ _ _ _ _, set_block (set_block (set_block HBv2.out (j * 3) _) (j * 3 + 1) _) (j * 3 + 2) _, by rw [Array.size_setIfInBounds, Array.size_setIfInBounds, Array.size_setIfInBounds]; exact HVs.out, row3 HVs.out hlt HVa.out.1 HCv.out⟩, ?_⟩
            simp only [intOf]; omega
        · have l1' : ¬ (j : Int) < (u : Int) := by omega
          obtain rfl : u = j := by omega
          go_wp2_with fail
          go_ret
          have hall := HVa.out
          rw [← HD.out] at hall
          have hfin := HI2.out.trans hall.all
          have hlen : vs.length = u := HVa.out.1
          refine ⟨fun vs' r h => ?_, fun h => by rw [hfin] at h; cases h⟩
          rw [hfin] at h
          simp only [Option.some.injEq, Prod.mk.injEq] at h
          obtain ⟨rfl, rfl⟩ := h
          refine ⟨g, by rw [hlen]; rfl, Nat.le_of_lt HGs.out, fun i hi => ?_, HRd.out⟩
          obtain ⟨a0, a1, a2⟩ := HCv.out i (by omega)
          rw [Nat.zero_add]
          exact ⟨(block_cell HBv.out _).trans a0, (block_cell HBv.out _).trans a1, (block_cell HBv.out _).trans a2⟩
end Go.Proofs.Ytfjmoiooonialaa
