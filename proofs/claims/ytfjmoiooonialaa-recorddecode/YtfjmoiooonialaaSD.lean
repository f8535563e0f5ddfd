/- The document's PutVarint. -/
import Derived.Test.YtfjmoiooonialaaSC
import Derived.Laws.Concat
namespace Go.Proofs.Ytfjmoiooonialaa
open Go.ChangeShapes Go.WideShapes Go.ChangeAt Go.RowKit
set_option linter.unusedVariables false

theorem bl_alloc1 {w w1 : World} (h : Below w.heap.size w w1) (o : Obj) : Below w.heap.size w (w1.alloc o) := h.alloc h.size o
/-- One byte as a text. -/
theorem conv_one (w : World) (x : UInt8) : (convert 42 9 (.slice (some ⟨w.heap.size, 0, none⟩) 1 1)).run Try.prog (w.alloc (.cells #[.int .u8 (x.toNat : Int)] 5)) = .ok (.string ⟨#[x]⟩) (w.alloc (.cells #[.int .u8 (x.toNat : Int)] 5)) := by
  refine run_convert_bytes_back (P := Try.prog) _ 42 9 5 ⟨w.heap.size, 0, none⟩ 1 [x] Try.underlying42 Try.underlying5 Try.underlying9 ?_
  intro j hj
  have hj0 : j = 0 := by simpa using hj
  subst hj0
  rw [show (⟨w.heap.size, 0, none⟩ : Addr).add 0 = ⟨w.heap.size, 0, none⟩ by unfold Addr.add; split <;> simp_all]
  exact (block_cell (cs := #[.int .u8 (x.toNat : Int)]) (t := 5) (by show (w.heap.push _)[w.heap.size]? = _; simp) 0)

theorem digits_size (u U k : Nat) (hu : u < 72057594037927936) (hU : u / 128 = U) (hk : k ≤ 8) (h0 : U / 128 ^ k = 0) (hp : ∀ j, j < k → 0 < U / 128 ^ j) : vsz u = k + 1 := by
  have hc : k = 0 ∨ k = 1 ∨ k = 2 ∨ k = 3 ∨ k = 4 ∨ k = 5 ∨ k = 6 ∨ k = 7 ∨ k = 8 := by omega
  unfold vsz
  rcases hc with rfl | rfl | rfl | rfl | rfl | rfl | rfl | rfl | rfl
  · simp at h0; (repeat' split) <;> omega
  · have h1 := hp 0 (by omega); simp at h0 h1; (repeat' split) <;> omega
  · have h1 := hp 1 (by omega); simp only [Nat.reducePow] at h0 h1; (repeat' split) <;> omega
  · have h1 := hp 2 (by omega); simp only [Nat.reducePow] at h0 h1; (repeat' split) <;> omega
  · have h1 := hp 3 (by omega); simp only [Nat.reducePow] at h0 h1; (repeat' split) <;> omega
  · have h1 := hp 4 (by omega); simp only [Nat.reducePow] at h0 h1; (repeat' split) <;> omega
  · have h1 := hp 5 (by omega); simp only [Nat.reducePow] at h0 h1; (repeat' split) <;> omega
  · have h1 := hp 6 (by omega); simp only [Nat.reducePow] at h0 h1; (repeat' split) <;> omega
  · have h1 := hp 7 (by omega); simp only [Nat.reducePow] at h0 h1; (repeat' split) <;> omega
theorem add_bytes (x : UInt8) (l : List UInt8) : (⟨#[x]⟩ : ByteArray) ++ (⟨l.toArray⟩ : ByteArray) = ⟨(x :: l).toArray⟩ := by
  apply ByteArray.ext
  simp
theorem cat_run (x : UInt8) (l : List UInt8) (hl : l.length ≤ 100) (V : World) : (Op.stringOp BinOp.add ⟨#[x]⟩ ⟨l.toArray⟩).run Try.prog V = .ok (.string ⟨(x :: l).toArray⟩) V := by
  rw [← add_bytes]
  refine run_string_add_sum V _ _ ?_
  show 1 + l.toArray.size ≤ _
  rw [List.size_toArray]
  omega
theorem shr_val (q : Nat) (h : q < 18446744073709551616) : IntKind.u64.wrap ((q : Int) / 128) = ((q / 128 : Nat) : Int) := by
  rw [IntKind.wrap_u64]; omega

set_option maxHeartbeats 1000000 in
set_option maxRecDepth 10000 in
theorem rput_small (u : Nat) (hu : u < 72057594037927936) (w : World) : Calls Try.prog 10 #[.int .u64 (u : Int)] w fun e w' => e = .returned (.string ⟨(putL u).toArray⟩) ∧ Below w.heap.size w w' := by
  have h1 : (u : Int) < 72057594037927936 := by omega
  obtain ⟨b0, hb0⟩ : ∃ b0 : UInt8, UInt8.ofNat (u % 128) = b0 := ⟨_, rfl⟩
  have hbv : (u : Int) % 128 = (b0.toNat : Int) := by
    rw [← hb0, UInt8.toNat_ofNat']; omega
  have hbw : (b0.toNat : Int) % 256 = (b0.toNat : Int) := by have := b0.toNat_lt; omega
  have hcv := fun w => conv_one w b0
  go_enter Try.func10, Try.ntmps10
  go_wp2
  obtain ⟨U, hU⟩ : ∃ U, u / 128 = U := ⟨_, rfl⟩
  rw [show (u : Int) / 128 = ((U / 128 ^ 0 : Nat) : Int) by simp; omega]
  go_name_world W hW
  go_loopw [0, 3] (fun uv sv wr => ∃ k : Nat, k ≤ 8 ∧ (∀ j, j < k → 0 < U / 128 ^ j) ∧ uv = .int .u64 ((U / 128 ^ k : Nat) : Int) ∧ sv = .string ⟨(lows k U ++ [b0]).toArray⟩ ∧ Below w.heap.size w wr) (fun uv _ _ => (intOf uv).toNat)
  case atStart =>
    exact ⟨0, by omega, by omega, rfl, rfl, new_below w _ hW⟩
  case round =>
    obtain ⟨k, hk8, hpos, rfl, rfl, hbel⟩ := hrel
    have HB : Hid (Below w.heap.size w wr) := hbel
    have HP : Hid (∀ j, j < k → 0 < U / 128 ^ j) := hpos
    have HU : Hid (u < 72057594037927936 ∧ u / 128 = U) := ⟨hu, hU⟩
    have HB0 : Hid (UInt8.ofNat (u % 128) = b0) := hb0
    clear hbel hW hpos hcv hbv hbw hb0 hu h1 hU
    obtain ⟨q, hq⟩ : ∃ q, U / 128 ^ k = q := ⟨_, rfl⟩
    have HQ : Hid (U / 128 ^ k = q) := hq
    rw [hq]
    clear hq
    by_cases h0 : q = 0
    · subst h0
      obtain ⟨hu, hU⟩ := HU.out
      have hsz := digits_size u U k hu hU hk8 HQ.out HP.out
      have hput : putL u = lows k U ++ [b0] := by
        unfold putL
        rw [if_pos hu, hsz, hU, HB0.out]
        rfl
      have HPut := hide hput
      clear hput hsz hu hU
      go_wp2
      go_ret
      exact ⟨by rw [HPut.out]; rfl, HB.out⟩
    · have hq0 : (0 : Int) < (q : Int) := by omega
      obtain ⟨x, hx⟩ : ∃ x, hiB q = x := ⟨_, rfl⟩
      obtain ⟨S, hS⟩ : ∃ S : ByteArray, (⟨(lows k U ++ [b0]).toArray⟩ : ByteArray) = S := ⟨_, rfl⟩
      obtain ⟨S2, hS2⟩ : ∃ S : ByteArray, (⟨(lows (k + 1) U ++ [b0]).toArray⟩ : ByteArray) = S := ⟨_, rfl⟩
      have hadd : ∀ V, (Op.stringOp BinOp.add ⟨#[x]⟩ S).run Try.prog V = .ok (.string S2) V := fun V => by
        have h := cat_run x (lows k U ++ [b0]) (by rw [List.length_append, lows_length]; simp; omega) V
        rw [hS, ← hx, ← HQ.out] at h
        rw [← hS2, ← hx, ← HQ.out]
        exact h
      have HS := hide (And.intro hS hS2)
      have hcq := fun w => conv_one w x
      have hxv : ((q : Int) % 128 + 128) = (x.toNat : Int) := by
        rw [← hx]; unfold hiB; rw [UInt8.toNat_ofNat']; omega
      rw [hS]
      clear hS hS2 hx
      go_wp2
      obtain ⟨hu, hU⟩ := HU.out
      have hq := HQ.out
      have hqb : q ≤ u := by
        have h1 := Nat.div_le_self U (128 ^ k)
        have h2 := Nat.div_le_self u 128
        omega
      rw [shr_val q (by omega)]
      refine ⟨⟨k + 1, ?_, ?_, ?_, ?_, bl_alloc1 HB.out _⟩, ?_⟩
      · refine Nat.lt_of_not_le fun h8 => h0 ?_
        obtain rfl : k = 8 := by omega
        rw [← hq]
        exact Nat.div_eq_of_lt (by simp only [Nat.reducePow]; omega)
      · intro j hj
        by_cases hjk : j = k
        · subst hjk; omega
        · exact HP.out j (by omega)
      · rw [Nat.pow_succ, ← Nat.div_div_eq_div_mul, hq]
      · rw [HS.out.2]
      · simp [intOf]; omega
end Go.Proofs.Ytfjmoiooonialaa
