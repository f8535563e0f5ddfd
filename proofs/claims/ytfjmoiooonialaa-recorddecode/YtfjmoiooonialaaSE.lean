/- The document's PutVarint of nine bytes. -/
import Derived.Test.YtfjmoiooonialaaSD
namespace Go.Proofs.Ytfjmoiooonialaa
open Go.ChangeShapes Go.WideShapes Go.ChangeAt Go.RowKit
set_option linter.unusedVariables false

set_option maxHeartbeats 1000000 in
set_option maxRecDepth 10000 in
theorem rput_big (u : Nat) (hu : u < 18446744073709551616) (hb : ¬ u < 72057594037927936) (w : World) : Calls Try.prog 10 #[.int .u64 (u : Int)] w fun e w' => e = .returned (.string ⟨(putL u).toArray⟩) ∧ Below w.heap.size w w' := by
  have h1 : ¬ (u : Int) < 72057594037927936 := by omega
  obtain ⟨b0, hb0⟩ : ∃ b0 : UInt8, UInt8.ofNat (u % 256) = b0 := ⟨_, rfl⟩
  have hbv : (u : Int) % 256 = (b0.toNat : Int) := by
    rw [← hb0, UInt8.toNat_ofNat']; omega
  have hcv := fun w => conv_one w b0
  have hwr : IntKind.u64.wrap ((u : Int) / 256) = (u : Int) / 256 := by rw [IntKind.wrap_u64]; omega
  have hu1 := hide hu
  clear hu
  go_enter Try.func10, Try.ntmps10
  go_wp2
  obtain ⟨U, hU⟩ : ∃ U, u / 256 = U := ⟨_, rfl⟩
  rw [show (u : Int) / 256 = ((U / 128 ^ 0 : Nat) : Int) by simp; omega]
  go_name_world W hW
  go_loopw [0, 4, 5] (fun uv sv iv wr => ∃ k : Nat, k ≤ 8 ∧ uv = .int .u64 ((U / 128 ^ k : Nat) : Int) ∧ sv = .string ⟨(lows k U ++ [b0]).toArray⟩ ∧ iv = .int .i64 (k : Int) ∧ Below w.heap.size w wr) (fun _ _ iv _ => 8 - (intOf iv).toNat)
  case atStart =>
    exact ⟨0, by omega, rfl, rfl, rfl, new_below w _ hW⟩
  case round =>
    obtain ⟨k, hk8, rfl, rfl, rfl, hbel⟩ := hrel
    have HB : Hid (Below w.heap.size w wr) := hbel
    have HU : Hid (¬ u < 72057594037927936 ∧ u / 256 = U) := ⟨hb, hU⟩
    have HB0 : Hid (UInt8.ofNat (u % 256) = b0) := hb0
    clear hbel hW hcv hbv hb0 hb h1 hU hwr
    obtain ⟨q, hq⟩ : ∃ q, U / 128 ^ k = q := ⟨_, rfl⟩
    have HQ : Hid (U / 128 ^ k = q) := hq
    rw [hq]
    clear hq
    by_cases h0 : k = 8
    · subst h0
      obtain ⟨hu, hU⟩ := HU.out
      have hput : putL u = lows 8 U ++ [b0] := by
        unfold putL
        rw [if_neg hu, hU, HB0.out]
      have HPut := hide hput
      clear hput hu hU
      go_wp2
      go_ret
      exact ⟨by rw [HPut.out]; rfl, HB.out⟩
    · have hk0 : (k : Int) < 8 := by omega
      obtain ⟨x, hx⟩ : ∃ x, hiB q = x := ⟨_, rfl⟩
      obtain ⟨S, hS⟩ : ∃ S : ByteArray, (⟨(lows k U ++ [b0]).toArray⟩ : ByteArray) = S := ⟨_, rfl⟩
      obtain ⟨S2, hS2⟩ : ∃ S : ByteArray, (⟨(lows (k + 1) U ++ [b0]).toArray⟩ : ByteArray) = S := ⟨_, rfl⟩
      have hadd : ∀ V, (Op.stringOp BinOp.add ⟨#[x]⟩ S).run Try.prog V = .ok (.string S2) V := fun V => by
        have h := cat_run x (lows k U ++ [b0]) (by rw [List.length_append, lows_length]; simp; omega) V
        rw [hS, ← hx, ← HQ.out] at h
        rw [← hS2, ← hx, ← HQ.out]
        exact h
      have HS := hide (And.intro hS hS2)
      have hcq := fun w => conv_one w x
      have hxv : ((q : Int) % 128 + 128) = (x.toNat : Int) := by
        rw [← hx]; unfold hiB; rw [UInt8.toNat_ofNat']; omega
      have hki : IntKind.i64.wrap ((k : Int) + 1) = ((k + 1 : Nat) : Int) := by rw [IntKind.wrap_i64]; omega
      rw [hS]
      clear hS hS2 hx
      go_wp2
      obtain ⟨hu, hU⟩ := HU.out
      have hq := HQ.out
      have hqb : q ≤ u := by
        have h1 := Nat.div_le_self U (128 ^ k)
        have h2 := Nat.div_le_self u 256
        omega
      have hul := hu1.out
      rw [shr_val q (by omega)]
      refine ⟨⟨k + 1, by omega, ?_, ?_, ?_, bl_alloc1 HB.out _⟩, ?_⟩
      · rw [Nat.pow_succ, ← Nat.div_div_eq_div_mul, hq]
      · rw [HS.out.2]
      · first | rfl | simp
      · simp [intOf]; omega

theorem rput_walk (u : Nat) (hu : u < 18446744073709551616) (w : World) : Calls Try.prog 10 #[.int .u64 (u : Int)] w fun e w' => e = .returned (.string ⟨(putL u).toArray⟩) ∧ Below w.heap.size w w' := by
  by_cases h : u < 72057594037927936
  · exact rput_small u h w
  · exact rput_big u hu h w
end Go.Proofs.Ytfjmoiooonialaa
