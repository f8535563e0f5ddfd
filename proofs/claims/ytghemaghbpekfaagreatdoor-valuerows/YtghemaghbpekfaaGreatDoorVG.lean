/- guess, Read. -/
import Derived.Test.YtghemaghbpekfaaGreatDoorVP
namespace Go.Proofs.YtghemaghbpekfaaGreatDoor
open Go.ChangeShapes Go.WideShapes Go.ChangeAt Go.RowKit
set_option linter.unusedVariables false

theorem pi_walk (s : ByteArray) (hs : s.size ≤ 1000) (w : World) (hE : Env w) : Calls Tryz.prog 50 #[.string s, .int .i64 10, .int .i64 64] w fun e w' => ∃ v, e = .returned (.tuple #[.int .i64 (numL s.data.toList), v]) ∧ Below w.heap.size w w' := by
  cases h : Lib.parseIntB 64 s.data.toList with
  | ok v =>
    refine (Tryz.strconv_ParseInt_10_at64_ok s (by omega) v h w).mono ?_
    rintro e w1 ⟨rfl, hw⟩
    refine ⟨_, by simp only [numL, h]; rfl, ?_⟩
    rcases hw with rfl | ⟨t, rfl⟩
    · exact Below.refl _ _
    · exact ⟨rfl, rfl, rfl, by rw [Lib.bytesWorld_size]; omega, fun j hj => Lib.bytesWorld_at_old w 5 t j hj⟩
  | «syntax» =>
    obtain ⟨ev, h1, h2⟩ := hE.syn
    refine (Tryz.strconv_ParseInt_10_at64_syntax s (by omega) h ev w h1 h2).mono ?_
    rintro e w1 ⟨N, rfl, _, _, hb⟩
    exact ⟨_, by simp only [numL, h]; rfl, hb⟩
  | range =>
    obtain ⟨ev, h1, h2⟩ := hE.ran
    refine (Tryz.strconv_ParseInt_10_at64_range s (by omega) h ev w h1 h2).mono ?_
    rintro e w1 ⟨N, rfl, _, _, hb⟩
    exact ⟨_, by simp only [numL, h]; rfl, hb⟩

theorem hp_walk (s p : ByteArray) (w : World) : Calls Tryz.prog 47 #[.string s, .string p] w fun e w' => e = .returned (.bool (Lib.hasPrefix s.data.toList p.data.toList)) ∧ w = w' := by
  refine (Tryz.strings_HasPrefix s p w).mono ?_
  rintro e w1 ⟨rfl, rfl⟩
  exact ⟨rfl, rfl⟩
theorem ts_walk (s p : ByteArray) (hs : s.size ≤ 1000) (w : World) : Calls Tryz.prog 48 #[.string s, .string p] w fun e w' => e = .returned (.string ⟨(Lib.trimSuffix s.data.toList p.data.toList).toArray⟩) ∧ w = w' := by
  refine (Tryz.strings_TrimSuffix s p w (by omega)).mono ?_
  rintro e w1 ⟨rfl, rfl⟩
  exact ⟨rfl, rfl⟩

theorem ext_list (s : ByteArray) (n : Nat) : (s.extract n s.size).data.toList = s.data.toList.drop n := by
  rw [Lib.extract_eq]
  have : s.data.toList.length = s.size := by simp
  show List.take _ _ = _
  rw [List.take_of_length_le (by rw [List.length_drop]; omega)]

theorem pre_size {s : ByteArray} {p : List UInt8} (h : Lib.hasPrefix s.data.toList p = true) : p.length ≤ s.size := by
  have := List.isPrefixOf_iff_prefix.1 h
  have := this.length_le
  simpa using this

theorem infoV : (Tryz.prog.info? 24).map (·.size) = some 3 := by kernel_rfl
/-- A value comes back out of a result's own block. -/
theorem ret_val {w1 : World} {g : Nat} {x y z : Value} {fn : Func} (hres : fn.results = #[.cell 2 24]) {tmps : Array Value} (ht : tmps.getD 2 undef = .pointer (some ⟨g, 0, none⟩))
    (hb : w1.heap[g]? = some (.cells #[x, y, z] 24 (0, 0))) {a b c : Value} {R : Ending → World → Prop}
    (h : R (.returned (.agg #[a, b, c])) (((w1.setCell ⟨g, 0, none⟩ a).setCell ⟨g, 1, none⟩ b).setCell ⟨g, 2, none⟩ c)) :
    bodyPost Tryz.prog fn R Exit.ret { tmps := tmps, defers := [] } (((w1.setCell ⟨g, 0, none⟩ a).setCell ⟨g, 1, none⟩ b).setCell ⟨g, 2, none⟩ c) := by
  have hs := set_block (set_block (set_block hb 0 a) 1 b) 2 c
  exact bodyPost_ret (v := .agg #[a, b, c]) (results_cell_row hres _ _ g 24 _ (0, 0) _ ht (by simpa using hs) Tryz.underlying24 rfl infoV) rfl h
theorem below_set3 {w w1 : World} (h : Below w.heap.size w w1) (a b c : Value) : Below w.heap.size w (((w1.setCell ⟨w.heap.size, 0, none⟩ a).setCell ⟨w.heap.size, 1, none⟩ b).setCell ⟨w.heap.size, 2, none⟩ c) :=
  ((h.setCell (Nat.le_refl _) _).setCell (Nat.le_refl _) _).setCell (Nat.le_refl _) _

/-- A result's own block, behind a call that leaves it alone. -/
theorem res_block (w : World) (a b c : Value) (T : TypeId) {w1 : World} (hb : Below (w.alloc (.cells #[a, b, c] T)).heap.size (w.alloc (.cells #[a, b, c] T)) w1) :
    w1.heap[w.heap.size]? = some (.cells #[a, b, c] T (0, 0)) := by
  rw [hb.block _ (by simp)]
  show (w.heap.push _)[w.heap.size]? = _
  simp
theorem block_frozen {w : World} {b : Nat} {cs : Array Value} {t : TypeId} (h : w.heap[b]? = some (.cells cs t (0, 0))) (i : Nat) : w.frozen? ⟨b, i, none⟩ = false := by
  simp [World.frozen?, h]
theorem res_facts {w : World} {b : Nat} {x y z : Value} {T : TypeId} (h : w.heap[b]? = some (.cells #[x, y, z] T (0, 0))) :
    w.cell? ⟨b, 0, none⟩ = some x ∧ w.cell? ⟨b, 1, none⟩ = some y ∧ w.cell? ⟨b, 2, none⟩ = some z ∧ w.frozen? ⟨b, 0, none⟩ = false ∧ w.frozen? ⟨b, 1, none⟩ = false ∧ w.frozen? ⟨b, 2, none⟩ = false :=
  ⟨by rw [block_cell h]; rfl, by rw [block_cell h]; rfl, by rw [block_cell h]; rfl, block_frozen h 0, block_frozen h 1, block_frozen h 2⟩

set_option maxHeartbeats 1000000 in
set_option maxRecDepth 10000 in
theorem guess_walk (s : ByteArray) (hs : s.size ≤ 1000) (w : World) (hE : Env w) : Calls Tryz.prog 32 #[.string s] w fun e w' =>
    e = .returned (val (guessK s.data.toList) (guessN s.data.toList) ⟨(guessT s.data.toList).toArray⟩) ∧ Below w.heap.size w w' := by
  have hl : s.data.toList.length = s.size := by simp
  by_cases c1 : s.data.toList = nullL
  · have e1 : s = ⟨#[78, 85, 76, 76]⟩ := by
      cases s with | mk d => simp [nullL] at c1; simp [← c1]
    subst e1
    go_enter Tryz.func32, Tryz.ntmps32
    go_wp2
    go_returns
    exact ⟨rfl, by go_grown⟩
  have hne : (s.toList == [78, 85, 76, 76]) = false := by rw [ByteArray.toList_eq]; simpa [nullL] using c1
  have HW : Hid (∀ w1, Below (w.alloc (.cells #[.int .i64 0, .int .i64 0, .string ⟨#[]⟩] 24)).heap.size (w.alloc (.cells #[.int .i64 0, .int .i64 0, .string ⟨#[]⟩] 24)) w1 →
      w1.cell? ⟨w.heap.size, 0, none⟩ = some (.int .i64 0) ∧ w1.cell? ⟨w.heap.size, 1, none⟩ = some (.int .i64 0) ∧ w1.cell? ⟨w.heap.size, 2, none⟩ = some (.string ⟨#[]⟩) ∧ w1.frozen? ⟨w.heap.size, 0, none⟩ = false ∧ w1.frozen? ⟨w.heap.size, 1, none⟩ = false ∧ w1.frozen? ⟨w.heap.size, 2, none⟩ = false ∧ Hid (w1.heap[w.heap.size]? = some (.cells #[.int .i64 0, .int .i64 0, .string ⟨#[]⟩] 24 (0, 0))) ∧ Hid (Below w.heap.size w w1)) := by
    intro w1 hb
    obtain ⟨d0, d1, d2, f0, f1, f2⟩ := res_facts (res_block w _ _ _ _ hb)
    exact ⟨d0, d1, d2, f0, f1, f2, res_block w _ _ _ _ hb, below_trans (new_below w _ rfl) hb⟩
  have HE : Hid (Env (w.alloc (.cells #[.int .i64 0, .int .i64 0, .string ⟨#[]⟩] 24))) := hE.below (new_below w _ rfl)
  by_cases c2 : Lib.hasPrefix s.data.toList [39] = true
  · have h1 := pre_size c2
    have p1 : (1 : Int) ≤ (s.size : Int) := by simp at h1; omega
    obtain ⟨s1, hs1⟩ : ∃ s1, s.extract 1 s.size = s1 := ⟨_, rfl⟩
    have l1 : s1.data.toList = s.data.toList.drop 1 := by rw [← hs1, ext_list]
    have z1 : s1.size ≤ 1000 := by
      have : s1.data.toList.length = s1.size := by simp
      rw [← this, l1, List.length_drop, hl]; omega
    have hT := fun (V : World) => ts_walk s1 ⟨#[39]⟩ z1 V
    obtain ⟨X, hX⟩ : ∃ X : ByteArray, X = ⟨(Lib.trimSuffix s1.data.toList [39]).toArray⟩ := ⟨_, rfl⟩
    have zX : X.size ≤ 1000 := by
      have := Lib.trimSuffix_le s1.data.toList [39]
      have h2 : s1.data.toList.length = s1.size := by simp
      rw [hX]; simp [ByteArray.size]; omega
    rw [show (⟨#[39]⟩ : ByteArray).data.toList = [39] from rfl, ← hX] at hT
    have hR := fun (V : World) (hV : Env V) => rep_walk X ⟨#[39, 39]⟩ ⟨#[39]⟩ zX (by decide) (by decide) V hV
    obtain ⟨Y, hY⟩ : ∃ Y : ByteArray, Y = ⟨(Lib.replaceAll X.data.toList [39, 39] [39]).toArray⟩ := ⟨_, rfl⟩
    rw [show (⟨#[39]⟩ : ByteArray).data.toList = [39] from rfl, show (⟨#[39, 39]⟩ : ByteArray).data.toList = [39, 39] from rfl, ← hY] at hR
    have hg : val (guessK s.data.toList) (guessN s.data.toList) ⟨(guessT s.data.toList).toArray⟩ = val 2 0 Y := by
      have e2 : guessT s.data.toList = Lib.replaceAll X.data.toList [39, 39] [39] := by
        simp only [guessT, if_neg c1, c2, if_true]
        rw [hX, l1]
      rw [hY, e2]
      simp [guessK, guessN, c1, c2]
    rw [hg]
    have HT : Hid (∀ V, Calls Tryz.prog 48 #[.string s1, .string ⟨#[39]⟩] V fun e w' => e = .returned (.string X) ∧ V = w') := hT
    have HR : Hid (∀ V, Env V → Calls Tryz.prog 40 #[.string X, .string ⟨#[39, 39]⟩, .string ⟨#[39]⟩] V fun e w' => e = .returned (.string Y) ∧ Below V.heap.size V w') := hR
    clear hT hR hX hY hg l1 h1
    go_enter Tryz.func32, Tryz.ntmps32
    go_wp2_with (first
      | (go_at_call 47; with_reducible refine Calls.mono (hp_walk _ _ _) ?_; rintro e w1 ⟨rfl, rfl⟩)
      | (go_at_call 48; with_reducible refine Calls.mono (HT.out _) ?_; rintro e w1 ⟨rfl, rfl⟩)
      | (go_at_call 40; with_reducible refine Calls.mono (HR.out _ HE.out) ?_; rintro e w1 ⟨rfl, hb1⟩; obtain ⟨d0, d1, d2, f0, f1, f2, HK1, HB1⟩ := HW.out _ hb1; clear hb1))
    exact ret_val Tryz.results32 rfl HK1.out ⟨rfl, below_set3 HB1.out _ _ _⟩
  have c2' : Lib.hasPrefix s.data.toList [39] = false := by simpa using c2
  by_cases c3 : Lib.hasPrefix s.data.toList [120, 39] = true
  · have h1 := pre_size c3
    have p1 : (2 : Int) ≤ (s.size : Int) := by simp at h1; omega
    obtain ⟨s1, hs1⟩ : ∃ s1, s.extract 2 s.size = s1 := ⟨_, rfl⟩
    have l1 : s1.data.toList = s.data.toList.drop 2 := by rw [← hs1, ext_list]
    have z1 : s1.size ≤ 1000 := by
      have : s1.data.toList.length = s1.size := by simp
      rw [← this, l1, List.length_drop, hl]; omega
    have hT := fun (V : World) => unhex_walk s1 z1 V
    obtain ⟨Y, hY⟩ : ∃ Y : ByteArray, Y = ⟨(unhexL s1.data.toList).toArray⟩ := ⟨_, rfl⟩
    rw [← hY] at hT
    have hg : val (guessK s.data.toList) (guessN s.data.toList) ⟨(guessT s.data.toList).toArray⟩ = val 3 0 Y := by
      have e2 : guessT s.data.toList = unhexL s1.data.toList := by
        simp only [guessT, if_neg c1, c2', c3, if_true]
        rw [l1]
        rfl
      rw [hY, e2]
      simp [guessK, guessN, c1, c2', c3]
    rw [hg]
    have HT : Hid (∀ V, Calls Tryz.prog 49 #[.string s1] V fun e w' => e = .returned (.string Y) ∧ Below V.heap.size V w') := hT
    clear hT hY hg l1 h1 c2
    go_enter Tryz.func32, Tryz.ntmps32
    go_wp2_with (first
      | (go_at_call 47; with_reducible refine Calls.mono (hp_walk _ _ _) ?_; rintro e w1 ⟨rfl, rfl⟩)
      | (go_at_call 49; with_reducible refine Calls.mono (HT.out _) ?_; rintro e w1 ⟨rfl, hb1⟩; obtain ⟨d0, d1, d2, f0, f1, f2, HK1, HB1⟩ := HW.out _ hb1; clear hb1))
    exact ret_val Tryz.results32 rfl HK1.out ⟨rfl, below_set3 HB1.out _ _ _⟩
  have c3' : Lib.hasPrefix s.data.toList [120, 39] = false := by simpa using c3
  have hg : val (guessK s.data.toList) (guessN s.data.toList) ⟨(guessT s.data.toList).toArray⟩ = val 1 (numL s.data.toList) ⟨#[]⟩ := by
    simp [guessK, guessN, guessT, c1, c2', c3']
  rw [hg]
  have HI : Hid (∀ V, Env V → Calls Tryz.prog 50 #[.string s, .int .i64 10, .int .i64 64] V fun e w' => ∃ v, e = .returned (.tuple #[.int .i64 (numL s.data.toList), v]) ∧ Below V.heap.size V w') := fun V hV => pi_walk s hs V hV
  obtain ⟨N, hN⟩ : ∃ N, numL s.data.toList = N := ⟨_, rfl⟩
  rw [hN] at HI ⊢
  clear hg c2 c3 hN
  go_enter Tryz.func32, Tryz.ntmps32
  go_wp2_with (first
    | (go_at_call 47; with_reducible refine Calls.mono (hp_walk _ _ _) ?_; rintro e w1 ⟨rfl, rfl⟩)
    | (go_at_call 50; with_reducible refine Calls.mono (HI.out _ HE.out) ?_; rintro e w1 ⟨ev, rfl, hb1⟩)
    | (go_at_call 17; with_reducible refine Calls.mono (int_walk _ _) ?_; rintro e w2 ⟨rfl, hb2⟩; obtain ⟨d0, d1, d2, f0, f1, f2, HK1, HB1⟩ := HW.out _ (below_trans hb1 hb2); clear hb1 hb2))
  exact ret_val Tryz.results32 rfl HK1.out ⟨rfl, below_set3 HB1.out _ _ _⟩

end Go.Proofs.YtghemaghbpekfaaGreatDoor
