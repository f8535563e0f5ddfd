/- The bytes of any value that may be, appended. -/
import Derived.Test.YtfjmoiooonialaaFB
namespace Go.Proofs.Ytfjmoiooonialaa
open Go.ChangeShapes Go.WideShapes Go.ChangeAt Go.RowKit
set_option linter.unusedVariables false

theorem byte_eq (n : Int) (j : Nat) : ((byteN n j).toNat : Int) = (n / 2 ^ (8 * j)) % 256 := by
  unfold byteN
  rw [UInt8.toNat_ofNat']
  have h0 : 0 ≤ (n / 2 ^ (8 * j)) % 256 := Int.emod_nonneg _ (by decide)
  have h1 : (n / 2 ^ (8 * j)) % 256 < 256 := Int.emod_lt_of_pos _ (by decide)
  generalize (n / 2 ^ (8 * j)) % 256 = x at h0 h1
  omega
theorem byte_cell (n : Int) (j : Nat) : (#[.int .u8 ((n / 2 ^ (8 * j)) % 256)] : Array Value) = #[.int .u8 ((byteN n j).toNat : Int)] := by rw [byte_eq]

set_option maxHeartbeats 2000000 in
set_option maxRecDepth 10000 in
theorem append_walk (base : Nat) (vb : Value) (l : List UInt8) (k n : Int) (t : ByteArray) (hm : mayB k n t = true) (hn : InI n) (hl : l.length ≤ 50000) (w : World) (ho : OwnE w base vb l) (hb : base ≤ w.heap.size) :
    Calls Try.prog 24 #[vb, val k n t] w fun e w' => ∃ v', e = .returned v' ∧ OwnE w' base v' (l ++ valL k n t) ∧ Below base w w' := by
  have HTW : Hid (∀ V, Calls Try.prog 23 #[.agg #[.int .i64 k, .int .i64 n, .string t]] V fun e w' => e = .returned (.int .u64 (typN k n t : Int)) ∧ Below V.heap.size V w') := fun V => type_walk k n t hm hn V
  have HO := hide ho
  have HL := hide hl
  have HBs := hide hb
  have HSz := hide (may_size hm)
  have hT := typN_lt hm hn
  have HV : Hid (valL k n t = (if typN k n t ≤ 8 then beN n (typN k n t) (typN k n t) else []) ++ t.data.toList) := by show _ = _; rfl
  clear ho hl hb hm hn
  generalize typN k n t = T at HTW hT HV
  generalize valL k n t = VL at HV
  by_cases h8 : T ≤ 8
  · have c8 : (T : Int) ≤ 8 := by omega
    rw [if_pos h8] at HV
    have x1 : IntKind.i64.wrap (T : Int) = (T : Int) := by rw [IntKind.wrap_i64]; omega
    have x2 : IntKind.i64.wrap (8 * (T : Int)) = ((8 * T : Nat) : Int) := by rw [IntKind.wrap_i64]; omega
    go_enter Try.func24, Try.ntmps24
    go_wp2_with (first
      | (go_at_call 23; with_reducible refine Calls.mono (HTW.out _) ?_; rintro e w1 ⟨rfl, hb1⟩; have HO1 := hide ((HO.out.later (B := 0) (new_below w (.cells #[.int .i64 k, .int .i64 n, .string t] 46) rfl)).later (B := 0) hb1); have HB1 := hide (((Below.refl base w).alloc HBs.out (.cells #[.int .i64 k, .int .i64 n, .string t] 46)).trans (hb1.mono (by have := HBs.out; simp; omega))); have HZ1 := hide (Nat.le_trans HBs.out HB1.out.size); have HK1 := hide (show w1.heap[w.heap.size]? = some (.cells #[.int .i64 k, .int .i64 n, .string t] 46) by rw [hb1.block _ (by simp)]; exact blk_new w _); have HQ1 := hide (HO.out.lt w.heap.size (Nat.le_refl _)); clear hb1))
    go_loopw [0, 6] (fun bv sv wr => ∃ m s : Nat, m ≤ T ∧ s = 8 * (T - m) ∧ sv = .int .i64 (s : Int) ∧ OwnE wr base bv (l ++ beN n T m) ∧ wr.heap[w.heap.size]? = some (.cells #[.int .i64 k, .int .i64 n, .string t] 46) ∧ bv.ownBlock ≠ some w.heap.size ∧ Below base w wr) (fun _ sv _ => (intOf sv).toNat)
    case atStart => exact ⟨0, 8 * T, Nat.zero_le _, rfl, rfl, by simpa [beN] using HO1.out, HK1.out, HQ1.out, HB1.out⟩
    case round =>
      obtain ⟨m, s, hmT, hs, rfl, ho, hk, hq, hbr⟩ := hrel
      have HOr := hide ho
      have HKr := hide hk
      have HQr := hide hq
      have HBr := hide hbr
      have HZr := hide (Nat.le_trans HBs.out hbr.size)
      have HKl := hide (Array.getElem?_eq_some_iff.1 hk).1
      obtain ⟨e0, e1, e2, -⟩ := res_facts hk
      clear ho hk hq hbr HO1 HK1 HQ1 HB1 HZ1
      by_cases hlt : m < T
      · have c1 : (0 : Int) < (s : Int) := by omega
        have c8 : 8 ≤ s := by omega
        have c9 : s ≤ 64 := by omega
        have HJ : Hid (beN n T (m + 1) = beN n T m ++ [byteN n (T - (m + 1))]) := by show _ = _; rfl
        have HLr := hide (show (l ++ beN n T m).length ≤ 100000 by rw [List.length_append, beN_length]; have := HL.out; omega)
        have HCe : Hid ((#[.int .u8 ((n / 2 ^ (s - 8)) % 256)] : Array Value) = #[.int .u8 ((byteN n (T - (m + 1))).toNat : Int)]) := by
          show _ = _
          rw [show s - 8 = 8 * (T - (m + 1)) by omega, byte_cell]
        have HSs := hide hs
        have HMt := hide hmT
        have HLt := hide hlt
        clear hs hmT hlt
        go_wp2_with (first
          | (at_builtin; refine wp_byte (by rfl) _ _ (by rfl) base _ (l ++ beN n T m) _ _ HCe.out (by rfl) HOr.out (by rfl) HLr.out HZr.out ?_; intro v2 w2 ho2 hb2 hk2; have HO2 := hide ho2; have HB2 := hide (HBr.out.trans hb2); have HK2 := hide ((hk2 w.heap.size HKl.out HQr.out).1.trans HKr.out); have HQ2 := hide (hk2 w.heap.size HKl.out HQr.out).2; clear ho2 hb2 hk2))
        have hs := HSs.out
        have hlt := HLt.out
        refine ⟨⟨m + 1, s - 8, hlt, by omega, congrArg (Value.int IntKind.i64) (by omega), by rw [HJ.out, ← List.append_assoc]; exact HO2.out, HK2.out, HQ2.out, HB2.out⟩, ?_⟩
        simp only [intOf]
        omega
      · have c1 : ¬ (0 : Int) < (s : Int) := by omega
        obtain rfl : T = m := by omega
        have HLr := hide (show (l ++ beN n T T).length + t.size ≤ 100000 by rw [List.length_append, beN_length]; have := HL.out; have := HSz.out; omega)
        clear hs
        go_wp2_with (first
          | (at_builtin; refine wp_text (by rfl) _ _ (by rfl) base _ (l ++ beN n T T) t (by rfl) HOr.out (by rfl) HLr.out HZr.out ?_; intro v' w' ho' hb' hk'; have HO' := hide ho'; have HB' := hide (HBr.out.trans hb'); clear ho' hb' hk'))
        go_ret
        exact ⟨v', rfl, by rw [HV.out, ← List.append_assoc]; exact HO'.out, HB'.out⟩
  · have c8 : ¬ (T : Int) ≤ 8 := by omega
    rw [if_neg h8, List.nil_append] at HV
    have HLr := hide (show l.length + t.size ≤ 100000 by have := HL.out; have := HSz.out; omega)
    go_enter Try.func24, Try.ntmps24
    go_wp2_with (first
      | (go_at_call 23; with_reducible refine Calls.mono (HTW.out _) ?_; rintro e w1 ⟨rfl, hb1⟩; have HO1 := hide ((HO.out.later (B := 0) (new_below w (.cells #[.int .i64 k, .int .i64 n, .string t] 46) rfl)).later (B := 0) hb1); have HB1 := hide (((Below.refl base w).alloc HBs.out (.cells #[.int .i64 k, .int .i64 n, .string t] 46)).trans (hb1.mono (by have := HBs.out; simp; omega))); have HZ1 := hide (Nat.le_trans HBs.out HB1.out.size); have HK1 := hide (show w1.heap[w.heap.size]? = some (.cells #[.int .i64 k, .int .i64 n, .string t] 46) by rw [hb1.block _ (by simp)]; exact blk_new w _); obtain ⟨e0, e1, e2, -⟩ := res_facts HK1.out; clear hb1)
      | (at_builtin; refine wp_text (by rfl) _ _ (by rfl) base _ l t (by rfl) HO1.out (by rfl) HLr.out HZ1.out ?_; intro v' w' ho' hb' hk'; have HO' := hide ho'; have HB' := hide (HB1.out.trans hb'); clear ho' hb' hk'))
    go_ret
    exact ⟨v', rfl, by rw [HV.out]; exact HO'.out, HB'.out⟩
end Go.Proofs.Ytfjmoiooonialaa
