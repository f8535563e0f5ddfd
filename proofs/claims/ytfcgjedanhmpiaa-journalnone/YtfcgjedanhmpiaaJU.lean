/- The walk of JournalNone. -/
/- Proved here: for every number and list of pages the Go function bureaulaw06.JournalNone returns true: a journal of no disk refuses, and some answers that the document fixes. -/
import Derived.Test.YtfcgjedanhmpiaaJS
import Derived.Test.YtfcgjedanhmpiaaRows
import Derived.SizedLaws
import Derived.Deep.Slices
import Derived.Carry
namespace Go.Proofs.Ytfcgjedanhmpiaa
open Go.ChangeShapes Go.WideShapes Go.ChangeAt Go.RowKit
open Go.ChangeMaps (setBlock)
set_option linter.unusedVariables false

set_option maxHeartbeats 4000000 in
set_option maxRecDepth 20000 in
theorem none_walk (w : World) (n : Int) (p : Option Addr) (len cap : Nat) : Calls Try.prog 3 #[.int .i64 n, .slice p len cap] w fun e w' => e = .returned (.bool true) ∧ Below w.heap.size w w' := by
  have HP := hideJ (fun V => pageF_nil V n)
  have HR := hideJ recover_nil
  have HC := hideJ (fun V => commit_nil V n p len cap)
  have HCt := hideJ count_nil
  have HH := hideJ hot_nil
  have HA := hideJ (fun V (hg : w.grownBy V none) => Calls.mono (awake_j V) (fun e w' h => (⟨h.1, (grown_below (Nat.le_refl _) hg).trans (h.2.mono hg.size)⟩ : e = .returned (.bool true) ∧ Below w.heap.size w w')))
  have HI := hideJ (size24 z256_length)
  have HAl := hideJ (bytes_all z256)
  have HNn := hideJ new24
  have heq : ∀ V, (Op.equalIn 10000 24 (.agg (bcs z256).toArray) (.agg Try.zeroCells24)).run Try.prog V = .ok true V := fun V => by
    rw [zc24]
    have := run_equalIn_bytes (P := Try.prog) V 9998 24 5 256 Try.underlying24 Try.underlying5 (fun w => by kernel_rfl) z256 z256 z256_length z256_length
    rw [show (z256 == z256) = true by simp] at this
    exact this
  generalize bcs z256 = cz at HP HI HAl HNn heq
  go_enter Try.func3, Try.ntmps3
  go_wp2_with (first
    | (go_at_call 6; (with_reducible refine Calls.mono (HP.out _) ?_); rintro e w1 ⟨rfl, hg⟩; have HG1 := hideJ hg; clear hg)
    | ((with_reducible refine at24S ?_); refine wp_storeB (c := cz.toArray) HI.out (by rfl) HAl.out (HNn.out _) _ _ (by rfl) (by rfl) (by rfl) (by rfl) ?_; intro W2 hb5 ho5; have HB2 := hideJ hb5; have HG2 := hideJ (grown_trans' HG1.out (grown_only (World.grownBy_alloc _ _ _) ho5 (Nat.le_refl _))); clear hb5 ho5)
    | (go_at_call 7; (with_reducible refine Calls.mono (HR.out _) ?_); rintro e w3 ⟨rfl, hg⟩; have HG3 := hideJ (grown_trans' HG2.out hg); have HB3 := hideJ (Blk.grown HB2.out hg); clear hg)
    | ((with_reducible refine at24L ?_); refine wp_loadB HI.out u24 HB3.out _ (by rfl) (by rfl) (by rfl) ?_)
    | (go_at_call 8; (with_reducible refine Calls.mono (HC.out _) ?_); rintro e w4 ⟨rfl, hg⟩; have HG4 := hideJ (grown_trans' HG3.out hg); clear hg)
    | (go_at_call 9; (with_reducible refine Calls.mono (HCt.out _) ?_); rintro e w5 ⟨rfl, rfl⟩)
    | (go_at_call 10; (with_reducible refine Calls.mono (HH.out _) ?_); rintro e w6 ⟨rfl, hg⟩; have HG6 := hideJ (grown_trans' HG4.out hg); clear hg)
    | (go_at_call 11; (with_reducible refine Calls.mono (HA.out _ HG6.out) ?_); rintro e w7 ⟨rfl, hg⟩; have HG7 := hideJ hg; clear hg))
  go_ret
  exact ⟨rfl, HG7.out⟩
end Go.Proofs.Ytfcgjedanhmpiaa

namespace Go.Proofs.Ytfcgjedanhmpiaa
open Go.ChangeShapes Go.WideShapes Go.ChangeAt Go.RowKit Go.Deep
set_option linter.unusedVariables false

theorem ownT : ownKnob Try.prog.godebug = none := by kernel_rfl
theorem laidOutT : laidOutB Try.prog = true := by kernel_rfl
set_option maxRecDepth 100000 in
theorem journalNone_lifted (os : Os) (started : os.Started) (H : Type) (enc : TypeId × Value → H) :
    ReturnsInHanded {} Try.checked os 3 .any (Rows.journalNoneSpec.pre6 enc Try.prog Try.f3 Rows.journalNoneRow.domain false) (Rows.journalNoneSpec.post enc Try.prog Try.f3 false true false false) := by
  refine returnsInHanded_of_change (C := Try.checked) ownT started (by kernel_rfl) Try.func3
    (ChangeSpec.witness6 (enc := enc) (C := Try.checked) false ⟨#[], #[.int .i64 0, .slice none 0 0], []⟩ 8 (by kernel_rfl) (by kernel_rfl) (by kernel_rfl) (by kernel_rfl)) ?_
  intro W base args ds gs before hval0 hW hcnd _
  have hval : ∀ (j : Nat) t v, Try.f3.params[j]? = some t → args[j]? = some v → Value.okWide Try.prog W .any base t v := hval0
  have hW' := hW
  obtain ⟨p, q, hA0, hV, rfl, hfz, hnd⟩ := hW
  have hA : DataW.TrodAll enc Try.prog W 0 (fun _ => true) true Try.f3.params.toList args.toList ds p := hA0
  rw [Try.params3] at hA hval
  obtain ⟨v1, vs1, d1, ds1, p1, q1, hargs, rfl, rfl, h1, r1⟩ := trodAll_cons hA
  obtain ⟨v0, vs0, d0, ds0, p0, q0, rfl, rfl, rfl, h0, r2⟩ := trodAll_cons r1
  obtain ⟨rfl, rfl, rfl⟩ := trodAll_nil r2
  obtain rfl : args = #[v1, v0] := by cases args; simp_all
  obtain ⟨rfl, rfl⟩ := trodVars_none hV
  obtain ⟨a1, rfl, rfl, rfl, w1⟩ := open_int Try.underlying3 (hval 0 3 v1 rfl rfl) h1
  obtain ⟨a0, len0, cap0, rfl⟩ := okWide_slice Try.underlying22 (hval 1 22 v0 rfl rfl)
  simp only [List.append_nil, List.nil_append] at hW'
  have hlt0 : ∀ x ∈ p0, x.block < W.heap.size := fun x hx => hW'.lt x (by simp [hx])
  have h0k : DataW.Trod enc Try.prog W 0 (fun _ => true) true 22 (.slice a0 len0 cap0) d0 p0 := h0
  have hargs0 : ∀ (W' : World), Below W.heap.size W W' → DataW.Trod enc Try.prog W' 0 (fun b => decide (b < W.heap.size)) true 22 (.slice a0 len0 cap0) d0 p0 :=
    fun W' hn => Below.trod laidOutT (by kernel_rfl) (of_decide_eq_true (by kernel_rfl)) h0k hn hlt0
  clear hA0 hval0
  refine (none_walk W a1 a0 len0 cap0).mono fun e W' ⟨he, bel⟩ => ?_
  subst he
  have hfin : DataW.TrodAll enc Try.prog W' 0 (fun b => decide (b < W.heap.size)) true [3, 22] [.int .i64 a1, .slice a0 len0 cap0] [.lit (.int .i64 a1), d0] p0 := by
    simpa using (trodAll_cons_mk (shut_int Try.underlying3 w1) (trodAll_cons_mk (hargs0 W' bel) trodAll_mk0))
  exact ⟨_, rfl, _, _, _, [], _, [], hW', trodAll_mk1 (shut_bool Try.underlying4 _), hfin, rfl, bel.frame _, fun h => by cases h⟩

theorem journalNone_holds : Rows.JournalNoneSaid :=
  OpenClaim.holds_of_wide 3 Try.f3 rfl rfl rfl rfl rfl rfl rfl ⟨rfl, rfl, rfl, rfl, rfl⟩ rfl rfl rfl rfl rfl (by kernel_rfl) Try.func3 (by kernel_rfl)
    (of_decide_eq_true (by kernel_rfl)) (by unfold Func.isWrapper; first | (rw [if_pos (by decide +kernel)]; kernel_rfl) | (rw [if_neg (by decide +kernel)]; exact ⟨rfl, rfl⟩))
    (fun os started H enc _ => journalNone_lifted os started H enc)
#print axioms journalNone_holds
end Go.Proofs.Ytfcgjedanhmpiaa
