/- Proved here: for every page, place, cell and number the Go function bureaulaw05.PageForm returns true, whatever is in memory: a page is fixed by its kind, its link and its cells; what is put in and taken out again, or cut and joined, leaves it as it was. No condition. -/
import Derived.Test.YthhoeabenngiiaaOH
import Derived.Test.YthhoeabenngiiaaOI
import Derived.Test.YthhoeabenngiiaaRows
import Derived.WalkSpells
import Derived.WalkLawsBesides
import Derived.ShutString
import Derived.ChangeOld
import Derived.Below
import Derived.SizedLaws
import Derived.OpenShut
import Derived.Deep.Slices
import Derived.Carry
namespace Go.Proofs.Ythhoeabenngiiaa
open Go.ChangeShapes Go.WideShapes Go.ChangeAt Go.RowKit Go.Deep
open Go.ChangeMaps (open_string shut_string)
set_option linter.unusedVariables false

set_option maxHeartbeats 2000000 in
set_option maxRecDepth 10000 in
theorem form_not (l : List UInt8) (hl : l.length = 256) (ho : ¬ okB l) (i n : Int) (cell : ByteArray) (w : World) :
    Calls Try.prog 7 #[.agg (bc l), .int .i64 i, .string cell, .int .i64 n] w fun e w' => e = .returned (.bool true) ∧ Below w.heap.size w w' := by
  have HP0 : Hid (PAt (w.alloc (.cells (bc l) 23)) w.heap.size l) := PAt.new w l
  have HW0 := hide (new_below w (pgO l) rfl)
  have HL := hide hl
  have HCk : Hid (∀ V, Calls Try.prog 10 #[.agg (bc l)] V fun e w' => e = .returned (.int .i64 8) ∧ Below V.heap.size V w') := fun V => by have := check_walk l hl V; rw [okE_no ho] at this; exact this
  have HCn : Hid (∀ V, Calls Try.prog 12 #[.agg (bc l)] V fun e w' => e = .returned (.int .i64 0) ∧ Below V.heap.size V w') := fun V => by have := count_walk l hl V; rw [show cntV l = 0 from if_neg ho] at this; exact this
  clear hl ho
  go_enter Try.func7, Try.ntmps7
  go_wp2_with (first
    | ((with_reducible refine atL ?_); refine wp_loadP HL.out HP0.out _ (by rfl) (by rfl) (by rfl) ?_)
    | ((with_reducible refine atL ?_); refine wp_loadP HL.out HP1.out _ (by rfl) (by rfl) (by rfl) ?_)
    | (go_at_call 10; with_reducible refine Calls.mono (HCk.out _) ?_; rintro e w1 ⟨rfl, hb⟩; have HW1 := hide (below_trans HW0.out hb); have HP1 := hide (HP0.out.later hb); clear hb)
    | (go_at_call 12; with_reducible refine Calls.mono (HCn.out _) ?_; rintro e w2 ⟨rfl, hb⟩; have HW2 := hide (below_trans HW1.out hb); clear hb)
    | (go_at_call 17; with_reducible refine Calls.mono (awake_walk _) ?_; rintro e w3 ⟨rfl, hb⟩; have HW3 := hide (below_trans HW2.out hb); clear hb))
  go_ret
  exact ⟨rfl, HW3.out⟩

theorem form_any (l : List UInt8) (hl : l.length = 256) (i n : Int) (cell : ByteArray) (w : World) :
    Calls Try.prog 7 #[.agg (bc l), .int .i64 i, .string cell, .int .i64 n] w fun e w' => e = .returned (.bool true) ∧ Below w.heap.size w w' := by
  by_cases ho : okB l
  · obtain ⟨c, hcv, hc, hcS, hor⟩ := cells_facts l hl
    obtain rfl : c = byt l 1 := by rcases hor with ⟨_, h⟩ | ⟨h, _⟩; exact h; exact absurd ho h
    have hkind : kindV l = byt l 0 := if_pos ho
    have hlink : linkV l = lnk l := if_pos ho
    have hr0 : roomV l ≤ 250 := by
      have h1 : roomV l = 256 - endN l := if_pos ho
      have h2 : endN l = 6 + byt l 1 + sm l (byt l 1) := rfl
      omega
    have hlin := inL_length l i cell
    refine form_ok l (inL l i cell) (cuA l n) (cuB l n) hl hlin (cuA_length _ _) (cuB_length _ _) (byt l 0) (lnk l) (byt l 1) (cellS l) i n (inE l i cell) (cuE l n) (roomV l : Int) cell (by omega) ?_ ?_ ?_ ?_ ?_ (fun V => insert_any l hl i cell V) ?_ ?_ ?_ (fun V => room_walk l hl V) ?_ ?_ (fun V => cut_any l hl n V) ?_ ?_ ?_ ?_ ?_ w
    · exact fun V => by have := check_walk l hl V; rw [okE_yes ho] at this; exact this
    · exact fun V => cells_walk l hl (byt l 1) hcv hc (cellS l) hcS V
    · exact fun V => by have := kind_walk l hl V; rw [hkind] at this; exact this
    · exact fun V => by have := link_walk l hl V; rw [hlink] at this; exact this
    · exact fun V p cc h _ _ => new_any l hl ho V p cc h
    · intro he V
      obtain ⟨_, _, _, _, _, _, h1, h2, _⟩ := in_out hl he ho
      have := delete_any (inL l i cell) hlin i V
      rw [h1, h2] at this
      exact this
    · intro he V
      obtain ⟨_, _, hi, h1, h2, h3, _, _, _⟩ := in_out hl he ho
      obtain ⟨m, rfl⟩ : ∃ m : Nat, i = (m : Int) := ⟨i.toNat, by omega⟩
      have := cell_ok (inL l (m : Int) cell) hlin h1 m (by omega) V
      rw [cellS_eq] at this
      rw [Int.toNat_natCast] at h3
      rw [h3] at this
      exact this
    · intro he V
      obtain ⟨_, _, _, _, _, _, _, _, h1⟩ := in_out hl he ho
      have := room_walk (inL l i cell) hlin V
      rw [h1] at this
      exact this
    · intro he V
      have h1 := (in_out hl he ho).2.2.2.1
      have := check_walk (inL l i cell) hlin V
      rw [okE_yes h1] at this
      exact this
    · exact fun he => (in_out hl he ho).2.1
    · intro he
      unfold cuE at he ⊢
      rw [if_pos ho] at he ⊢
      split at he
      · rw [if_pos (by assumption)]
      · exact absurd rfl he
    · intro he V
      obtain ⟨h1, h2, _⟩ := cut_join hl he ho
      have := join_any (cuA l n) (cuB l n) (cuA_length _ _) (cuB_length _ _) V
      rw [h1, h2] at this
      exact this
    · intro he V
      obtain ⟨_, _, h1, _, h2⟩ := cut_join hl he ho
      have := count_walk (cuA l n) (cuA_length _ _) V
      rw [show cntV (cuA l n) = byt (cuA l n) 1 from if_pos h1, h2] at this
      exact this
    · intro he V
      have := check_walk (cuA l n) (cuA_length _ _) V
      rw [okE_yes (cut_join hl he ho).2.2.1] at this
      exact this
    · intro he V
      have := check_walk (cuB l n) (cuB_length _ _) V
      rw [okE_yes (cut_join hl he ho).2.2.2.1] at this
      exact this
  · exact form_not l hl ho i n cell w

theorem own : ownKnob Try.prog.godebug = none := by kernel_rfl
theorem laidOutD : laidOutB Try.prog = true := by kernel_rfl
theorem cells5 : Try.prog.cellsOf 5 = 1 := by kernel_rfl
theorem cells23 : Try.prog.cellsOf 23 = 256 := by kernel_rfl
/-- A page that is handed in by value. -/
theorem open_page {H : Type} {enc : TypeId × Value → H} {W : World} {r : Reach} {base b0 : Nat} {spare : Nat → Bool} {held : Bool} {v : Value} {d : DataW H} {ps : List MemPlace} (hv : Value.okWide Try.prog W r b0 23 v) (h : DataW.Trod enc Try.prog W base spare held 23 v d ps) : ∃ l : List UInt8, l.length = 256 ∧ v = .agg (bc l) := by
  have hv' := hv
  simp only [Value.okWide, page_arr] at hv'
  obtain ⟨cs, rfl, hsz, _⟩ := hv'
  rw [cells23] at hsz
  obtain ⟨fuel, hf⟩ := h
  obtain ⟨xs, m, _, _, hlen, hxl, hx⟩ := DataW.trod_array page_arr hf
  have each : ∀ i, i < 256 → ∃ b : UInt8, cs[i]? = some (.int .u8 (b.toNat : Int)) := by
    intro i hi
    have hxi := hx i hi
    rw [cells5, Nat.mul_one, List.getElem?_eq_getElem (by omega)] at hxi
    obtain ⟨n, hn, _, wf⟩ := DataW.trod_int Try.underlying5 hxi
    have hc : cs[i]? = some (.int .u8 n) := by
      have : ((cs.toList.drop i).take 1) = [Value.int .u8 n] := hn
      have h2 := congrArg (fun l => l[0]?) this
      simpa [List.getElem?_take, List.getElem?_drop] using h2
    have e1 : IntKind.u8.min = 0 := by decide
    have e2 : IntKind.u8.max = 255 := by decide
    simp only [Lit.wf, Bool.and_eq_true, decide_eq_true_eq, e1, e2] at wf
    refine ⟨UInt8.ofNat n.toNat, ?_⟩
    rw [hc, UInt8.toNat_ofNat']
    congr 2
    omega
  obtain ⟨q, hq⟩ := choose_lt each
  refine ⟨(List.range 256).map q, by simp, ?_⟩
  congr 1
  apply Array.ext
  · simp [bc, bcl, hsz]
  · intro i h1 h2
    have hi : i < 256 := by omega
    have := hq i hi
    rw [Array.getElem?_eq_getElem h1] at this
    simp [bc, bcl]
    exact Option.some.inj this

set_option maxRecDepth 100000 in
theorem pageform_lifted (os : Os) (started : os.Started) (H : Type) (enc : TypeId × Value → H) :
    ReturnsInHanded {} Try.checked os 7 .any (Rows.pageFormSpec.pre6 enc Try.prog Try.f7 Rows.pageFormRow.domain false) (Rows.pageFormSpec.post enc Try.prog Try.f7 false true false false) := by
  refine returnsInHanded_of_change_sized (C := Try.checked) own started (by kernel_rfl) Try.func7
    (ChangeSpec.witness6 (enc := enc) (C := Try.checked) false ⟨#[], #[.agg (bc zs), .int .i64 0, .string ByteArray.empty, .int .i64 0], []⟩ 8 (by kernel_rfl) (by kernel_rfl) (by kernel_rfl) (by kernel_rfl)) ?_
  intro W base args ds gs before hval0 hW hcnd hsz0 _
  have hval : ∀ (j : Nat) t v, Try.f7.params[j]? = some t → args[j]? = some v → Value.okWide Try.prog W .any base t v := hval0
  have hsz : (DataW.weightsEach Try.prog (Try.f7.params.toList ++ Rows.pageFormSpec.plain.varTypes Try.prog) (ds ++ gs)).all (· ≤ reachBytes) = true := hsz0
  have hW' := hW
  obtain ⟨p, q, hA0, hV, rfl, hfz, hnd⟩ := hW
  have hA : DataW.TrodAll enc Try.prog W 0 (fun _ => true) true Try.f7.params.toList args.toList ds p := hA0
  rw [Try.params7] at hA hval hsz
  obtain ⟨v0, vs0, d0, ds0, p0, q0, hargs, rfl, rfl, h0, r0⟩ := trodAll_cons hA
  obtain ⟨v1, vs1, d1, ds1, p1, q1, rfl, rfl, rfl, h1, r1⟩ := trodAll_cons r0
  obtain ⟨v2, vs2, d2, ds2, p2, q2, rfl, rfl, rfl, h2, r2⟩ := trodAll_cons r1
  obtain ⟨v3, vs3, d3, ds3, p3, q3, rfl, rfl, rfl, h3, r3⟩ := trodAll_cons r2
  obtain ⟨rfl, rfl, rfl⟩ := trodAll_nil r3
  obtain rfl : args = #[v0, v1, v2, v3] := by cases args; simp_all
  obtain ⟨rfl, rfl⟩ := trodVars_none hV
  obtain ⟨l, hl, rfl⟩ := open_page (hval 0 23 v0 rfl rfl) h0
  obtain ⟨a1, rfl, rfl, rfl, w1⟩ := open_int Try.underlying3 (hval 1 3 v1 rfl rfl) h1
  obtain ⟨a2, rfl, rfl, rfl, w2⟩ := open_string Try.underlying9 (hval 2 9 v2 rfl rfl) h2
  obtain ⟨a3, rfl, rfl, rfl, w3⟩ := open_int Try.underlying3 (hval 3 3 v3 rfl rfl) h3
  clear hA0 hval0 hsz0
  simp only [List.append_nil] at hW'
  have hlt0 : ∀ x ∈ p0, x.block < W.heap.size := fun x hx => hW'.lt x (by simp [hx])
  have h0k : DataW.Trod enc Try.prog W 0 (fun _ => true) true 23 (.agg (bc l)) d0 p0 := h0
  have hargs0 : ∀ (W' : World), Below W.heap.size W W' → DataW.Trod enc Try.prog W' 0 (fun b => decide (b < W.heap.size)) true 23 (.agg (bc l)) d0 p0 :=
    fun W' hn => Below.trod laidOutD (by kernel_rfl) (of_decide_eq_true (by kernel_rfl)) h0k hn hlt0
  refine (form_any l hl a1 a3 a2 W).mono fun e W' ⟨he, bel⟩ => ?_
  subst he
  have hfin : DataW.TrodAll enc Try.prog W' 0 (fun b => decide (b < W.heap.size)) true [23, 3, 9, 3] [.agg (bc l), .int .i64 a1, .string a2, .int .i64 a3] [d0, .lit (.int .i64 a1), .lit (.string a2.data.toList), .lit (.int .i64 a3)] p0 := by
    simpa using (trodAll_cons_mk (hargs0 W' bel) (trodAll_cons_mk (shut_int Try.underlying3 w1) (trodAll_cons_mk (shut_string Try.underlying9 w2) (trodAll_cons_mk (shut_int Try.underlying3 w3) trodAll_mk0))))
  exact ⟨_, rfl, _, _, _, [], _, [], hW', trodAll_mk1 (shut_bool Try.underlying4 _), hfin, rfl, bel.frame _, fun h => by cases h⟩

theorem pageForm_holds : Rows.PageFormSaid :=
  OpenClaim.holds_of_wide 7 Try.f7 rfl rfl rfl rfl rfl rfl rfl ⟨rfl, rfl, rfl, rfl, rfl⟩ rfl rfl rfl rfl rfl (by kernel_rfl) Try.func7 (by kernel_rfl)
    (of_decide_eq_true (by kernel_rfl)) (by unfold Func.isWrapper; first | (rw [if_pos (by decide +kernel)]; kernel_rfl) | (rw [if_neg (by decide +kernel)]; exact ⟨rfl, rfl⟩))
    (fun os started H enc _ => pageform_lifted os started H enc)
#print axioms pageForm_holds
end Go.Proofs.Ythhoeabenngiiaa
