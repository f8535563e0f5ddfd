/- The document's room of a page; its layout, in plain words. -/
import Derived.Test.YthhoeabenngiiaaGI
namespace Go.Proofs.Ythhoeabenngiiaa
open Go.ChangeShapes Go.WideShapes Go.ChangeAt Go.RowKit
set_option linter.unusedVariables false

abbrev bodyV (is : Bool) (k : Int) (L : Int) (sv : Value) : Value := .agg #[.bool is, .int .i64 k, .int .u32 L, sv]
abbrev bodyC (is : Bool) (k : Int) (L : Int) (sv : Value) : Obj := .cells #[.bool is, .int .i64 k, .int .u32 L, sv] 27

set_option maxHeartbeats 1000000 in
theorem rroom_walk (is : Bool) (k L : Int) (b o n cap : Nat) (S : Nat → ByteArray) (hs : n + (cat S n).length ≤ 140737488355328) (w : World) (h : StrAt w b o n S) :
    Calls Try.prog 9 #[bodyV is k L (.slice (some ⟨b, o, none⟩) n cap)] w fun e w' => e = .returned (.int .i64 (250 - ((n + (cat S n).length : Nat) : Int))) ∧ Below w.heap.size w w' := by
  have HB := hide (new_below w (bodyC is k L (.slice (some ⟨b, o, none⟩) n cap)) rfl)
  have HR := hide (h.later HB.out)
  have HS := hide hs
  clear h hs
  go_enter Try.func9, Try.ntmps9
  go_wp2
  go_loopw [4, 3] (fun iv nv wr => ∃ j : Nat, j ≤ n ∧ iv = .int .i64 (j : Int) ∧ nv = .int .i64 (250 - ((j + (cat S j).length : Nat) : Int)) ∧ wr = w.alloc (bodyC is k L (.slice (some ⟨b, o, none⟩) n cap))) (fun iv _ _ => n - (intOf iv).toNat)
  case atStart => exact ⟨0, Nat.zero_le _, rfl, rfl, rfl⟩
  case round =>
    obtain ⟨j, hj, rfl, rfl, rfl⟩ := hrel
    by_cases hlt : j < n
    · have l1 : (j : Int) < (n : Int) := by omega
      have l0 : (0 : Int) ≤ (j : Int) := by omega
      have hs := HS.out
      have hc := cat_len S j
      have hm := cat_mono S (show j + 1 ≤ n by omega)
      have hw1 : IntKind.i64.wrap ((j : Int) + 1) = (j : Int) + 1 := by rw [IntKind.wrap_i64]; omega
      have e1 : IntKind.i64.wrap (250 - ((j : Int) + ((cat S j).length : Int)) - 1) = 250 - ((j : Int) + ((cat S j).length : Int)) - 1 := by rw [IntKind.wrap_i64]; omega
      have e2 : IntKind.i64.wrap (250 - ((j : Int) + ((cat S j).length : Int)) - 1 - ((S j).size : Int)) = 250 - ((j : Int) + ((cat S j).length : Int)) - 1 - ((S j).size : Int) := by rw [IntKind.wrap_i64]; omega
      have cj := HR.out j hlt
      have HC := hide hc
      clear hs hc hm
      go_wp2
      refine ⟨⟨j + 1, hlt, rfl, ?_, by trivial⟩, ?_⟩
      · rw [HC.out]; congr 1; omega
      · simp only [intOf]; omega
    · have l1 : ¬ (j : Int) < (n : Int) := by omega
      obtain rfl : j = n := by omega
      go_wp2
      go_ret
      exact ⟨rfl, HB.out⟩

set_option maxHeartbeats 1000000 in
theorem rroom_nil (is : Bool) (k L : Int) (p : Option Addr) (cap : Nat) (w : World) :
    Calls Try.prog 9 #[bodyV is k L (.slice p 0 cap)] w fun e w' => e = .returned (.int .i64 250) ∧ Below w.heap.size w w' := by
  have HB := hide (new_below w (bodyC is k L (.slice p 0 cap)) rfl)
  go_enter Try.func9, Try.ntmps9
  go_wp2
  refine wp_loop_rounds 1 ?_
  rw [rounds_succ]
  go_wp2
  go_ret
  exact ⟨rfl, HB.out⟩

/-- A page while it is laid byte by byte. -/
def hd6 (k n L : Nat) : List UInt8 := [UInt8.ofNat k, UInt8.ofNat n, UInt8.ofNat (L / 16777216), UInt8.ofNat (L / 65536), UInt8.ofNat (L / 256), UInt8.ofNat L]
def layH (H : List UInt8) (S : Nat → ByteArray) (n i : Nat) : List UInt8 := H ++ (cat (fun i => lenS (S i)) i ++ (zeros (n - i) ++ (cat S i ++ zeros (250 - n - (cat S i).length))))
def layI (H : List UInt8) (S : Nat → ByteArray) (n i k : Nat) : List UInt8 := H ++ (cat (fun i => lenS (S i)) (i + 1) ++ (zeros (n - (i + 1)) ++ ((cat S i ++ (S i).data.toList.take k) ++ zeros (250 - n - ((cat S i).length + k)))))
theorem pageL_eq (k L n : Nat) (S : Nat → ByteArray) : pageL k L n S = layH (hd6 k n L) S n n := by
  unfold pageL lay layH setL hd6
  rw [cat_lenS]
  simp
theorem set_mid (X Y : List UInt8) (a b : UInt8) {p : Nat} (hp : p = X.length) : (X ++ a :: Y).set p b = X ++ b :: Y := by
  subst hp
  rw [List.set_append_right _ _ (Nat.le_refl _)]
  simp
theorem zeros_cons {n : Nat} (h : 0 < n) : zeros n = 0 :: zeros (n - 1) := by
  cases n with
  | zero => omega
  | succ m => rfl
theorem layH_length {H : List UInt8} {S : Nat → ByteArray} {n i : Nat} (hH : H.length = 6) (hi : i ≤ n) (h : n + (cat S i).length ≤ 250) : (layH H S n i).length = 256 := by
  have := cat_lenS S i
  simp [layH, zeros, hH]; omega
theorem layI_length {H : List UInt8} {S : Nat → ByteArray} {n i k : Nat} (hH : H.length = 6) (hi : i < n) (hk : k ≤ (S i).size) (h : n + ((cat S i).length + k) ≤ 250) : (layI H S n i k).length = 256 := by
  have := cat_lenS S (i + 1)
  have hb := bytes_size (S i)
  simp [layI, zeros, hH]; omega
theorem layI_start (H : List UInt8) (S : Nat → ByteArray) (n i : Nat) (hH : H.length = 6) (hi : i < n) : (layH H S n i).set (6 + i) (UInt8.ofNat (S i).size) = layI H S n i 0 := by
  have hc := cat_lenS S i
  unfold layH layI
  rw [zeros_cons (show 0 < n - i by omega), ← List.append_assoc, List.cons_append, set_mid _ _ _ _ (by simp [hH, hc])]
  simp only [cat, List.take_zero, List.append_nil, Nat.add_zero, List.append_assoc, show n - i - 1 = n - (i + 1) by omega]
  rfl
theorem layI_step (H : List UInt8) (S : Nat → ByteArray) (n i k : Nat) (q : UInt8) (hH : H.length = 6) (hi : i < n) (hk : k < (S i).size) (hq : (S i).data.toList[k]? = some q) (h : n + ((cat S i).length + (k + 1)) ≤ 250) {p : Nat} (hp : p = 6 + n + (cat S i).length + k) : (layI H S n i k).set p q = layI H S n i (k + 1) := by
  have hc := cat_lenS S (i + 1)
  have hb := bytes_size (S i)
  unfold layI
  rw [zeros_cons (show 0 < 250 - n - ((cat S i).length + k) by omega)]
  have e : H ++ (cat (fun i => lenS (S i)) (i + 1) ++ (zeros (n - (i + 1)) ++ ((cat S i ++ (S i).data.toList.take k) ++ 0 :: zeros (250 - n - ((cat S i).length + k) - 1)))) = (H ++ (cat (fun i => lenS (S i)) (i + 1) ++ (zeros (n - (i + 1)) ++ (cat S i ++ (S i).data.toList.take k)))) ++ 0 :: zeros (250 - n - ((cat S i).length + k) - 1) := by simp only [List.append_assoc]
  rw [e, set_mid _ _ _ _ (by subst hp; simp [hH, hc, zeros]; omega)]
  rw [List.take_add_one, hq]
  simp only [List.append_assoc, Option.toList_some, List.cons_append, List.nil_append, show 250 - n - ((cat S i).length + (k + 1)) = 250 - n - ((cat S i).length + k) - 1 by omega]
theorem layI_end (H : List UInt8) (S : Nat → ByteArray) (n i : Nat) (hi : i < n) : layI H S n i (S i).size = layH H S n (i + 1) := by
  have hb := bytes_size (S i)
  unfold layI layH
  rw [List.take_of_length_le (by omega), cat_len S i]
  rfl
theorem hd_set (k n L : Nat) (hk : k < 256) (hL : L < 4294967296) (S : Nat → ByteArray) (hn2 : n ≤ 250) : (((((((bc zs).setIfInBounds 0 (Value.int IntKind.u8 (k : Int))).setIfInBounds 1 (Value.int IntKind.u8 (n : Int))).setIfInBounds 2 (Value.int IntKind.u8 ((L : Int) / 16777216))).setIfInBounds 3 (Value.int IntKind.u8 ((L : Int) / 65536 % 256))).setIfInBounds 4 (Value.int IntKind.u8 ((L : Int) / 256 % 256))).setIfInBounds 5 (Value.int IntKind.u8 ((L : Int) % 256))) = bc (layH (hd6 k n L) S n 0) := by
  have h : ∀ m : Nat, ((UInt8.ofNat m).toNat : Int) = (m : Int) % 256 := fun m => by simp
  rw [show (k : Int) = ((UInt8.ofNat k).toNat : Int) by rw [h]; omega, show (n : Int) = ((UInt8.ofNat n).toNat : Int) by rw [h]; omega, show (L : Int) / 16777216 = ((UInt8.ofNat (L / 16777216)).toNat : Int) by rw [h]; omega, show (L : Int) / 65536 % 256 = ((UInt8.ofNat (L / 65536)).toNat : Int) by rw [h]; omega,
    show (L : Int) / 256 % 256 = ((UInt8.ofNat (L / 256)).toNat : Int) by rw [h]; omega, show (L : Int) % 256 = ((UInt8.ofNat L).toNat : Int) by rw [h]]
  rw [bc_set, bc_set, bc_set, bc_set, bc_set, bc_set]
  congr 1
  show _ = hd6 k n L ++ ([] ++ (zeros (n - 0) ++ ([] ++ zeros (250 - n - 0))))
  rw [List.nil_append, List.nil_append, Nat.sub_zero, Nat.sub_zero, ← zeros_split n 250 hn2]
  rfl
end Go.Proofs.Ythhoeabenngiiaa
