/- The program's own hex: each byte as two digits. -/
import Derived.Test.YtkooijhdjjdigaaDoorCH
import Derived.Test.YtkooijhdjjdigaaDoorKT
import Derived.Deep.AppendLies
namespace Go.Proofs.YtkooijhdjjdigaaDoor
open Go.ChangeShapes Go.WideShapes Go.ChangeAt Go.RowKit
set_option linter.unusedVariables false

theorem hexd_get : ∀ a : Fin 16, ((⟨#[48, 49, 50, 51, 52, 53, 54, 55, 56, 57, 97, 98, 99, 100, 101, 102]⟩ : ByteArray).data.toList[a.val]?) = some (hexd a.val) := by decide +kernel
theorem makeZ (n : Nat) (hn : n ≤ 140737488351232) (W : World) : (Instr.makeSlice 62 (Value.int IntKind.i64 0) (Value.int IntKind.i64 (n : Int))).run Tryd.prog W = .ok (.slice (some ⟨W.heap.size, 0, none⟩) 0 n) (W.alloc (.cells (madeCells (Value.int IntKind.u8 0).cells n) 5)) := by
  obtain ⟨i, hi, hz, hsz, hby⟩ := info_parts info5'
  have := run_make (P := Tryd.prog) W 62 5 i (.int .u8 0) Tryd.underlying62 hi hz .i64 .i64 (0 : Int) (n : Int) (by omega) (by omega) (by rw [hby]; omega) (by omega)
  simpa [hsz] using this
set_option maxRecDepth 10000 in
set_option maxHeartbeats 4000000 in
theorem hex_e (s : ByteArray) (hs : s.size ≤ 4294967280) (w : World) :
    Calls Tryd.prog 56 #[.string s] w fun e w' => e = .returned (.string ⟨(hexs s.data.toList).toArray⟩) ∧ Below w.heap.size w w' := by
  obtain ⟨i0, hi0, hi1, hi2, hi3⟩ := info_parts info5'
  obtain ⟨R, hR⟩ : ∃ R, hexs s.data.toList = R := ⟨_, rfl⟩
  rw [hR]
  have HR := hide hR
  have hmk := makeZ (2 * s.size) (by omega)
  have hmul : IntKind.i64.wrap (2 * (s.size : Int)) = ((2 * s.size : Nat) : Int) := by rw [IntKind.wrap_i64]; omega
  have hpc : ((2 * s.size : Nat) : Int) = 2 * (s.size : Int) := by omega
  rw [hpc] at hmk hmul
  clear hR hpc
  go_enter Tryd.func56, Tryd.ntmps56
  go_wp2
  obtain ⟨S, hS⟩ : ∃ S : ByteArray, S = { data := #[48, 49, 50, 51, 52, 53, 54, 55, 56, 57, 97, 98, 99, 100, 101, 102] } := ⟨_, rfl⟩
  have hSs : S.size = 16 := by rw [hS]; rfl
  have HD : Hid (∀ a : Nat, a < 16 → ∀ (h : a < S.size), S[a]'h = hexd a) := fun a ha h => by
    have e := hexd_get ⟨a, ha⟩
    rw [← hS] at e
    have e2 : S.data.toList[a]? = some (S[a]'h) := by rw [List.getElem?_eq_getElem (by simpa using h)]; rfl
    exact Option.some.inj (e2.symm.trans e)
  rw [← hS]
  clear hS
  go_loopw [3, 11] (fun v iv wr => ∃ (j : Nat), j ≤ s.size ∧ iv = .int .i64 (j : Int) ∧ OwnB wr w.heap.size v (hexs (s.data.toList.take j)) ∧ Below w.heap.size w wr) (fun _ iv _ => s.size - (intOf iv).toNat)
  case atStart =>
    refine ⟨0, Nat.zero_le _, rfl, ⟨by rw [List.take_zero]; rfl, .inr ⟨w.heap.size, 2 * s.size, _, rfl, Nat.le_refl _, heap_alloc_new w _, Nat.zero_le _, by unfold maxLen; omega, by rw [size_madeCells]; simp, by rw [List.take_zero]; rfl⟩⟩, below_alloc w _⟩
  case round =>
    obtain ⟨j, hj, rfl, hown, hb⟩ := hrel
    have HO := hide hown
    have HB := hide hb
    clear hown hb
    by_cases hlt : j < s.size
    · have l1 : (j : Int) < (s.size : Int) := by omega
      have l0 : (0 : Int) ≤ (j : Int) := by omega
      have hw1 : IntKind.i64.wrap ((j : Int) + 1) = ((j + 1 : Nat) : Int) := by rw [IntKind.wrap_i64]; omega
      obtain ⟨c, hc⟩ : ∃ c : UInt8, s[j]'hlt = c := ⟨_, rfl⟩
      have htk := take_next s j hlt
      rw [hc] at htk
      have hq := c.toNat_lt
      have h1 := HD.out (c.toNat / 16) (by omega)
      have h2 := HD.out (c.toNat % 16) (by omega)
      have HT : Hid (hexs (s.data.toList.take (j + 1)) = hexs (s.data.toList.take j) ++ [hexd (c.toNat / 16), hexd (c.toNat % 16)]) := by show _ = _; rw [htk, hexs_snoc]
      generalize hexd (c.toNat / 16) = x at *
      generalize hexd (c.toNat % 16) = y at *
      have hlen : (hexs (s.data.toList.take j)).length = 2 * j := by rw [hexs_length, List.length_take]; simp; omega
      generalize hexs (s.data.toList.take j) = l at *
      obtain ⟨q, hqq⟩ : ∃ q, c.toNat = q := ⟨_, rfl⟩
      have hbc : ∀ (h : j < s.size), ((s[j]'h).toNat : Int) = (q : Int) := fun h => by rw [hc, hqq]
      rw [hqq] at h1 h2 hq
      obtain ⟨u, hu⟩ : ∃ u, q / 16 = u := ⟨_, rfl⟩
      obtain ⟨v4, hv4⟩ : ∃ v4, q % 16 = v4 := ⟨_, rfl⟩
      rw [hu] at h1
      rw [hv4] at h2
      have hx : ∀ (h : u < S.size), ((S[u]'h).toNat : Int) = (x.toNat : Int) := fun h => by rw [h1 h]
      have hy : ∀ (h : v4 < S.size), ((S[v4]'h).toNat : Int) = (y.toNat : Int) := fun h => by rw [h2 h]
      have hand : bits BinOp.and IntKind.u8 (q : Int) 15 = (v4 : Int) := by
        unfold bits
        show IntKind.u8.wrap ((BitVec.ofInt 8 ((q : Nat) : Int) &&& BitVec.ofInt 8 ((15 : Nat) : Int)).toNat : Int) = _
        rw [BitVec.ofInt_natCast, BitVec.ofInt_natCast, BitVec.toNat_and, BitVec.toNat_ofNat, BitVec.toNat_ofNat, Nat.mod_eq_of_lt hq, IntKind.wrap_u8]
        have e : q &&& 15 % 2 ^ 8 = q % 16 := Nat.and_two_pow_sub_one_eq_mod q 4
        rw [e]
        omega
      have hshr : (q : Int) / 16 = (u : Int) := by omega
      have b1 : (u : Int) < (S.size : Int) := by omega
      have b2 : (v4 : Int) < (S.size : Int) := by omega
      have b3 : (0 : Int) ≤ (u : Int) := by omega
      have b4 : (0 : Int) ≤ (v4 : Int) := by omega
      have N1 : Hid (l.length + 2 ≤ maxLen) := (show l.length + 2 ≤ maxLen by unfold maxLen; omega)
      have N2 : Hid ((l.length + 2) * 1 ≤ 140737488355328) := (show (l.length + 2) * 1 ≤ 140737488355328 by omega)
      have HSz : Hid (w.heap.size ≤ wr.heap.size) := HB.out.size
      have hwsz : w.heap.size ≤ wr.heap.size := HSz.out
      clear h1 h2 hc hqq htk hlen
      go_wp2
      go_region_held3 (fun _ => True) (trivial) (first
        | (refine step_append_lies _ (by rfl) _ _ _ (by rfl) w.heap.size 5 i0 (.int .u8 0) 1 1 Tryd.underlying62 hi0 hi1 hi2 hi3 rfl (by omega) u3 _ _ (by rfl) ((HO.out.alloc _).drew) ⟨wr.heap.size, 0, none⟩ 2 2 [.int .u8 (x.toNat : Int), .int .u8 (y.toNat : Int)] (by rfl) (by rfl) (World.news_of_block (cs := #[.int .u8 (x.toNat : Int), .int .u8 (y.toNat : Int)]) (t := 5) (fr := (0, 0)) (heap_alloc_new wr _)) (by simp [Value.oneCell']) (by omega) N1.out N2.out (by simp; omega) (wr.heap.size + 1) (by simp) ?_; intro gg cap w2 hown2 hgrow hat hlt2))
      all_goals
        go_wp2
        go_roundw
        case rel => exact ⟨j + 1, hlt, rfl, by rw [HT.out]; exact own_step (d := [x, y]) hown2 rfl, below_row ((HB.out.alloc HSz.out _).drew) ((HO.out.alloc _).drew) (by simp; omega) hgrow⟩
        case measure => simp [intOf]; omega
    · have hje : j = s.size := by omega
      subst hje
      have l1 : ¬ ((s.size : Int) < (s.size : Int)) := by omega
      have hcv := conv_own HO.out
      have HN : Hid (hexs (s.data.toList.take s.size) = R) := (show _ = _ by rw [List.take_of_length_le (by simp)]; exact HR.out)
      go_wp2
      go_ret
      rw [HN.out]
      exact ⟨rfl, HB.out⟩
end Go.Proofs.YtkooijhdjjdigaaDoor
