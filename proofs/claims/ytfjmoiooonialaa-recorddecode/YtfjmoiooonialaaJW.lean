/- Proved here: for every text the Go function bureaulaw04.RecordDecode returns true, whatever is in memory: a text is read as the row whose record it is, or refused, as the reference says. No condition. -/
import Derived.Test.YtfjmoiooonialaaJU
import Derived.Test.YtfjmoiooonialaaRows
import Derived.WalkSpells
import Derived.WalkLawsBesides
import Derived.ShutString
import Derived.ChangeOld
import Derived.Below
import Derived.SizedLaws
namespace Go.Proofs.Ytfjmoiooonialaa
open Go.ChangeShapes Go.WideShapes Go.ChangeAt Go.RowKit
open Go.ChangeMaps (open_string shut_string)
set_option linter.unusedVariables false

theorem own : ownKnob Try.prog.godebug = none := by kernel_rfl
theorem size_of_reach {s : ByteArray} (h : s.data.toList.length ≤ reachBytes) : s.data.toList.length ≤ 140737488355328 := Nat.le_trans h (by decide)

set_option maxHeartbeats 2000000 in
set_option maxRecDepth 10000 in
theorem recdec_walk (l : List UInt8) (hs : l.length ≤ 140737488355328) (w : World) :
    Calls Try.prog 5 #[.string ⟨l.toArray⟩] w fun e w' => e = .returned (.bool true) ∧ Below w.heap.size w w' := by
  have hD := decode_any l w
  have hR := fun V => rdecode_any l hs V
  obtain ⟨S, hS⟩ : ∃ S : ByteArray, (⟨l.toArray⟩ : ByteArray) = S := ⟨_, rfl⟩
  rw [hS] at hD
  simp only [hS] at hR
  rw [hS]
  clear hS
  cases hra : rdAll l with
  | none =>
    have HD := hide (hD.mono fun e w' h => h.2 hra)
    have HR : Hid (∀ V, Calls Try.prog 17 #[.string S] V fun e w' => e = .returned (.tuple #[.slice none 0 0, .int .i64 8]) ∧ Below V.heap.size V w') := fun V => (hR V).mono fun e w' h => h.2 hra
    have HS : Hid (∀ V, Calls Try.prog 18 #[.slice none 0 0, .slice none 0 0] V fun e w' => e = .returned (.bool true) ∧ Below V.heap.size V w') := fun V => by
      have := rsame_walk none none 0 0 0 0 (fun _ => 0) (fun _ => 0) (fun _ => ⟨#[]⟩) (fun _ => 0) (fun _ => 0) (fun _ => ⟨#[]⟩) (by omega) V (fun h => by omega) (fun h => by omega)
      rwa [same_yes (fun i hi => by omega)] at this
    clear hD hR hra hs
    go_enter Try.func5, Try.ntmps5
    go_wp2_with (first
      | (go_at_call 16; (with_reducible refine Calls.mono HD.out ?_); rintro e w1 ⟨rfl, hb⟩; have HX := hide hb; clear hb)
      | (go_at_call 17; (with_reducible refine Calls.mono (HR.out _) ?_); rintro e w2 ⟨rfl, hb⟩; have HX := hide (below_trans HX.out hb); clear hb)
      | (go_at_call 18; (with_reducible refine Calls.mono (HS.out _) ?_); rintro e w3 ⟨rfl, hb⟩; have HX := hide (below_trans HX.out hb); clear hb)
      | (go_at_call 11; (with_reducible refine Calls.mono (awake_walk _) ?_); rintro e w4 ⟨rfl, hb⟩; have HX := hide (below_trans HX.out hb); clear hb))
    go_ret
    exact ⟨by simp, HX.out⟩
  | some vs =>
    have HD := hide (hD.mono fun e w' h => h.1 vs hra)
    have HR : Hid (∀ V, Calls Try.prog 17 #[.string S] V fun e w' => ∃ p c, e = .returned (.tuple #[.slice p vs.length c, .int .i64 0]) ∧ RowP w' p vs.length (KV vs) (NV vs) (TV vs) ∧ Below V.heap.size V w') := fun V => (hR V).mono fun e w' h => h.1 vs hra
    have HLn := hide (show vs.length ≤ 140737488355328 by have := ((rdAll_iff l vs).1 hra).2.1; omega)
    have HY := hide (same_yes (len := vs.length) (K := KV vs) (N := NV vs) (T := TV vs) (K2 := KV vs) (N2 := NV vs) (T2 := TV vs) (fun i _ => ⟨rfl, rfl, rfl⟩))
    clear hD hR hra hs
    go_enter Try.func5, Try.ntmps5
    go_wp2_with (first
      | (go_at_call 16; (with_reducible refine Calls.mono HD.out ?_); rintro e w1 ⟨g, rfl, hr, hb⟩; have HX := hide hb; have HR1 := hide hr; clear hb hr)
      | (go_at_call 17; (with_reducible refine Calls.mono (HR.out _) ?_); rintro e w2 ⟨p, c, rfl, hr, hb⟩; have HX := hide (below_trans HX.out hb); have HSm := hide (rsame_walk (some ⟨g, 0, none⟩) p vs.length vs.length vs.length c (KV vs) (NV vs) (TV vs) (KV vs) (NV vs) (TV vs) HLn.out w2 (rowP_of (HR1.out.later hb)) hr); clear hb hr)
      | (go_at_call 18; (with_reducible refine Calls.mono HSm.out ?_); rintro e w3 ⟨rfl, hb⟩; rw [HY.out]; have HX := hide (below_trans HX.out hb); clear hb)
      | (go_at_call 11; (with_reducible refine Calls.mono (awake_walk _) ?_); rintro e w4 ⟨rfl, hb⟩; have HX := hide (below_trans HX.out hb); clear hb))
    go_ret
    exact ⟨by simp, HX.out⟩

set_option maxRecDepth 100000 in
theorem recdec_lifted (os : Os) (started : os.Started) (H : Type) (enc : TypeId × Value → H) :
    ReturnsInHanded {} Try.checked os 5 .any (Rows.recordDecodeSpec.pre6 enc Try.prog Try.f5 Rows.recordDecodeRow.domain false) (Rows.recordDecodeSpec.post enc Try.prog Try.f5 false true false false) := by
  refine returnsInHanded_of_change_sized (C := Try.checked) own started (by kernel_rfl) Try.func5
    (ChangeSpec.witness6 (enc := enc) (C := Try.checked) false ⟨#[], #[.string ByteArray.empty], []⟩ 8 (by kernel_rfl) (by kernel_rfl) (by kernel_rfl) (by kernel_rfl)) ?_
  intro W base args ds gs before hval0 hW hcnd hsz0 _
  have hval : ∀ (j : Nat) t v, Try.f5.params[j]? = some t → args[j]? = some v → Value.okWide Try.prog W .any base t v := hval0
  have hsz : (DataW.weightsEach Try.prog (Try.f5.params.toList ++ Rows.recordDecodeSpec.plain.varTypes Try.prog) (ds ++ gs)).all (· ≤ reachBytes) = true := hsz0
  have hW' := hW
  obtain ⟨p, q, hA0, hV, rfl, hfz, hnd⟩ := hW
  have hA : DataW.TrodAll enc Try.prog W 0 (fun _ => true) true Try.f5.params.toList args.toList ds p := hA0
  rw [Try.params5] at hA hval hsz
  obtain ⟨v0, vs0, d0, ds0, p0, q0, hargs, rfl, rfl, h0, r0⟩ := trodAll_cons hA
  obtain ⟨rfl, rfl, rfl⟩ := trodAll_nil r0
  obtain rfl : args = #[v0] := by cases args; simp_all
  obtain ⟨rfl, rfl⟩ := trodVars_none hV
  obtain ⟨a0, rfl, rfl, rfl, w0⟩ := open_string Try.underlying9 (hval 0 9 v0 rfl rfl) h0
  clear hA0 hval0 hsz0
  have hz : a0.data.toList.length ≤ reachBytes := sized_string hsz (j := 0) (t := 9) rfl rfl
  have hs := size_of_reach hz
  have hs2 : a0 = ⟨a0.data.toList.toArray⟩ := by cases a0; simp
  have hwalk := recdec_walk a0.data.toList hs W
  rw [← hs2] at hwalk
  refine hwalk.mono fun e W' ⟨he, bel⟩ => ?_
  subst he
  exact ⟨_, rfl, _, _, _, [], _, [], hW', trodAll_mk1 (shut_bool Try.underlying4 _), (trodAll_cons_mk (shut_string Try.underlying9 w0) trodAll_mk0), rfl, bel.frame _, fun h => by cases h⟩

theorem recordDecode_holds : Rows.RecordDecodeSaid :=
  OpenClaim.holds_of_wide 5 Try.f5 rfl rfl rfl rfl rfl rfl rfl ⟨rfl, rfl, rfl, rfl, rfl⟩ rfl rfl rfl rfl rfl (by kernel_rfl) Try.func5 (by kernel_rfl)
    (of_decide_eq_true (by kernel_rfl)) (by unfold Func.isWrapper; first | (rw [if_pos (by decide +kernel)]; kernel_rfl) | (rw [if_neg (by decide +kernel)]; exact ⟨rfl, rfl⟩))
    (fun os started H enc _ => recdec_lifted os started H enc)
#print axioms recordDecode_holds
end Go.Proofs.Ytfjmoiooonialaa
