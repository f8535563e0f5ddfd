/- Contracts of a file's resize to fewer bytes, of put behind its end, of arrived. -/
import Derived.Test.YtfcgjedanhmpiaaV1
namespace Go.Proofs.Ytfcgjedanhmpiaa
open Go.ChangeShapes Go.WideShapes Go.ChangeAt Go.RowKit
set_option linter.unusedVariables false

theorem hide {p : Prop} (h : p) : Hid p := h
theorem bcs_take (l : List UInt8) (n : Nat) : bcs (l.take n) = (bcs l).take n := by simp [bcs]

set_option maxHeartbeats 400000 in
theorem file_resize_less (w : World) (b o : Nat) (c : Array Value) (t : TypeId) (base : Nat) (v : Value) (l : List UInt8) (n : Nat) (hb : Blk w b c t) (hc : c[o]? = some v) (hown : Own w base v l) (hn : n ≤ l.length) (hl : l.length ≤ 1048576) :
    Calls Try.prog 61 #[.pointer (some ⟨b, o, none⟩), .int .i64 n] w fun e w' => e = .returned (.tuple #[]) ∧
      ∃ v', Own w base v' (l.take n) ∧ (∀ g, v'.ownBlock = some g → v.ownBlock = some g) ∧ w' = w.setCell ⟨b, o, none⟩ v' := by
  have h0 : w.cell? ⟨b, o, none⟩ = some v := (hb.cell o).trans hc
  have f0 := hb.frozen o
  have hle : (n : Int) ≤ (l.length : Int) := by omega
  rcases hown.2 with ⟨rfl, hz⟩ | ⟨g, cap, cur, rfl, hbg, hg, hnc, hcm, hcs, htake⟩
  · obtain rfl : n = 0 := by omega
    have e0 : (l.length : Int) = 0 := by omega
    go_enter Try.func61, Try.ntmps61
    go_wp2
    refine bodyPost_ret (results_none rfl _ _ _) rfl ?_
    have e1 : l = [] := List.length_eq_zero_iff.1 hz
    subst e1
    exact ⟨rfl, _, World.ownsRow_nil _ _ _ _, fun g h => h, rfl⟩
  · have hle2 : (n : Int) ≤ (cap : Int) := by omega
    have hn0 : (0 : Int) ≤ (n : Int) := by omega
    have hlt : (l.take n).length = n := by rw [List.length_take]; omega
    have HO : Hid (Own w base (.slice (some ⟨g, 0, none⟩) n cap) (l.take n)) := by
      refine ⟨by rw [length_bcs, Nat.mul_one], .inr ⟨g, cap, cur, by rw [hlt], hbg, hg, by omega, hcm, hcs, ?_⟩⟩
      rw [hlt, bcs_take, ← htake, List.take_take]
      congr 1
      omega
    clear hb hown htake hcs hg hlt
    go_enter Try.func61, Try.ntmps61
    go_wp2
    refine bodyPost_ret (results_none rfl _ _ _) rfl ?_
    exact ⟨rfl, _, HO.out, fun g h => h, rfl⟩

set_option maxHeartbeats 400000 in
theorem put_out (w : World) (b o : Nat) (c : Array Value) (t : TypeId) (base : Nat) (v : Value) (l : List UInt8) (at_ : Nat) (dv : Value) (hb : Blk w b c t) (hc : c[o]? = some v) (hown : Own w base v l) (hat : l.length ≤ at_) :
    Calls Try.prog 62 #[.pointer (some ⟨b, o, none⟩), .int .i64 at_, dv] w fun e w' => e = .returned (.tuple #[]) ∧ w = w' := by
  have h0 : w.cell? ⟨b, o, none⟩ = some v := (hb.cell o).trans hc
  obtain ⟨a, cap, rfl⟩ := ownsRow_form hown
  have hle : ¬ (at_ : Int) < (l.length : Int) := by omega
  clear hown hb
  go_enter Try.func62, Try.ntmps62
  go_wp2
  go_end0
  exact ⟨rfl, rfl⟩

/-- How many bytes of a sector come through. -/
def arrN (k : Int) : Nat := if k = 1 then 64 else (1 + (k - 2) % 63).toNat
theorem arrN_le {k : Int} (h : 1 ≤ k) : 1 ≤ arrN k ∧ arrN k ≤ 64 := by
  unfold arrN
  split <;> omega

set_option maxHeartbeats 400000 in
theorem arrived_any (k : Int) (h1 : 1 ≤ k) (h2 : k ≤ 9223372036854775807) (w : World) : Calls Try.prog 63 #[.int .i64 k] w fun e w' => e = .returned (.int .i64 (arrN k : Int)) ∧ w = w' := by
  have hle := arrN_le h1
  by_cases e : k = 1
  · subst e
    go_enter Try.func63, Try.ntmps63
    go_wp2
    go_ret
    exact ⟨rfl, rfl⟩
  · have w1 : IntKind.i64.wrap (k - 2) = k - 2 := by rw [IntKind.wrap_i64]; omega
    have hm : ((arrN k : Nat) : Int) = 1 + (k - 2) % 63 := by
      unfold arrN
      rw [if_neg e]
      omega
    have hn : (k - 2).tmod 63 = (k - 2) % 63 := Int.tmod_eq_emod_of_nonneg (by omega)
    have w2 : IntKind.i64.wrap (1 + (k - 2) % 63) = 1 + (k - 2) % 63 := by rw [← hm, IntKind.wrap_i64]; omega
    have w3 : IntKind.i64.wrap ((k - 2) % 63) = (k - 2) % 63 := by rw [IntKind.wrap_i64]; omega
    have HM := hide hm
    clear hle hm
    go_enter Try.func63, Try.ntmps63
    go_wp2
    go_ret
    exact ⟨ret_int HM.out.symm, rfl⟩
end Go.Proofs.Ytfcgjedanhmpiaa
