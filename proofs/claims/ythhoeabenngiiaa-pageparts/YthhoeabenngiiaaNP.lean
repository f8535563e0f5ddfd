/- Proved here: for every two pages and every place the Go function bureaulaw05.PageParts returns true, whatever is in memory: Cut and Join answer as the reference says. No condition. -/
import Derived.Test.YthhoeabenngiiaaNN
import Derived.Test.YthhoeabenngiiaaRows
import Derived.WalkSpells
import Derived.WalkLawsBesides
import Derived.ShutString
import Derived.ChangeOld
import Derived.Below
import Derived.SizedLaws
import Derived.OpenShut
import Derived.Deep.Slices
import Derived.Carry
namespace Go.Proofs.Ythhoeabenngiiaa
open Go.ChangeShapes Go.WideShapes Go.ChangeAt Go.RowKit Go.Deep
open Go.ChangeMaps (open_string shut_string)
set_option linter.unusedVariables false

theorem rd_any (l : List UInt8) (hl : l.length = 256) : ∃ (bi : Bool) (bk bL bn : Nat) (S : Nat → ByteArray), bn ≤ 250 ∧ ((bi = true ∧ okB l ∧ bk = byt l 0 ∧ bL = lnk l ∧ bn = byt l 1 ∧ S = cellS l) ∨ (bi = false ∧ ¬ okB l)) ∧
    ∀ V, Calls Try.prog 8 #[.agg (bcl l).toArray] V fun e w' => ∃ p, (∃ cc, e = .returned (bodyV bi (bk : Int) (bL : Int) (.slice p bn cc)) ∧ bn ≤ cc) ∧ StrP w' p bn S ∧ Below V.heap.size V w' := by
  by_cases ho : okB l
  · exact ⟨true, byt l 0, lnk l, byt l 1, cellS l, (ok_small hl ho).1, .inl ⟨rfl, ho, rfl, rfl, rfl, rfl⟩, fun V => (rread_walk l hl V).mono fun e w' h => by
      obtain ⟨p, ⟨c, he, hc, _⟩, hs, hb⟩ := h.1 ho
      exact ⟨p, ⟨c, he, hc⟩, hs, hb⟩⟩
  · exact ⟨false, 0, 0, 0, noS, by omega, .inr ⟨rfl, ho⟩, fun V => (rread_walk l hl V).mono fun e w' h => ⟨none, ⟨0, (h.2 ho).1, Nat.le_refl _⟩, fun h0 => absurd h0 (by omega), (h.2 ho).2⟩⟩
theorem room_parts {l : List UInt8} (hl : l.length = 256) (ho : okB l) {m : Nat} (hm : m ≤ byt l 1) : m + (cat (cellS l) m).length ≤ 250 ∧ byt l 1 - m + (cat (fun t => cellS l (m + t)) (byt l 1 - m)).length ≤ 250 := by
  have h := ok_room hl ho
  have e := cat_add (cellS l) m (byt l 1 - m)
  rw [show m + (byt l 1 - m) = byt l 1 by omega] at e
  rw [e, List.length_append] at h
  omega

theorem parts_any (l q : List UInt8) (hl : l.length = 256) (hq : q.length = 256) (i : Int) (w : World) :
    Calls Try.prog 6 #[.agg (bc l), .agg (bc q), .int .i64 i] w fun e w' => e = .returned (.bool true) ∧ Below w.heap.size w w' := by
  obtain ⟨bi, bk, bL, bn, S, hbn, hb, hR1⟩ := rd_any l hl
  obtain ⟨ci, ck, cL, cn, S2, hcn, hc, hR2⟩ := rd_any q hq
  refine parts_walk l q (cuA l i) (cuB l i) (joL l q) hl hq (cuA_length _ _) (cuB_length _ _) (joL_length _ _) i bi ci bk bL bn ck cL cn S S2 (cuE l i) (joE l q) hbn hcn hR1 hR2 (fun V => cut_any l hl i V) (fun V => join_any l q hl hq V) ?_ ?_ ?_ ?_ ?_ ?_ ?_ ?_ w
  · intro h
    rcases hb with ⟨h1, _⟩ | ⟨_, hno⟩
    · rw [h] at h1; cases h1
    · unfold cuA cuB joL cuE joE
      rw [if_neg (fun h => hno h.1), if_neg (fun h => hno h.1), if_neg (fun h => hno h.1.1), if_neg hno, if_neg (fun h => hno h.1)]
      exact ⟨rfl, rfl, rfl, rfl, rfl⟩
  · intro h hi
    rcases hb with ⟨_, ho, rfl, rfl, rfl, rfl⟩ | ⟨h1, _⟩
    · unfold cuA cuB cuE
      rw [if_neg (fun h => h.2 hi), if_neg (fun h => h.2 hi), if_pos ho, if_pos hi]
      exact ⟨rfl, rfl, rfl⟩
    · rw [h] at h1; cases h1
  · intro h hi
    rcases hb with ⟨_, ho, rfl, rfl, rfl, rfl⟩ | ⟨h1, _⟩
    · unfold cuE
      rw [if_pos ho, if_neg hi]
    · rw [h] at h1; cases h1
  · rintro h m rfl hm V p cc hs
    rcases hb with ⟨_, ho, rfl, rfl, rfl, rfl⟩ | ⟨h1, _⟩
    · have := lay_any true (byt l 0) 0 (ok_small hl ho).2.2.1 (by omega) p m cc (cellS l) (room_parts hl ho hm).1 V hs
      unfold cuA
      rw [if_pos ⟨ho, by omega⟩, Int.toNat_natCast]
      exact this
    · rw [h] at h1; cases h1
  · rintro h m rfl hm V p cc hs
    rcases hb with ⟨_, ho, rfl, rfl, rfl, rfl⟩ | ⟨h1, _⟩
    · have := lay_any true (byt l 0) (lnk l) (ok_small hl ho).2.2.1 (ok_small hl ho).2.2.2 p (byt l 1 - m) cc (fun t => cellS l (m + t)) (room_parts hl ho hm).2 V hs
      unfold cuB
      rw [if_pos ⟨ho, by omega⟩, Int.toNat_natCast]
      exact this
    · rw [h] at h1; cases h1
  · intro h h2
    rcases hc with ⟨h1, _⟩ | ⟨_, hno⟩
    · rw [h2] at h1; cases h1
    · unfold joL joE
      rw [if_neg (fun h => hno h.1.2), if_neg (fun h => hno h.2)]
      exact ⟨rfl, rfl⟩
  · intro h h2 hk
    rcases hb with ⟨_, ho, rfl, rfl, rfl, rfl⟩ | ⟨h1, _⟩
    · rcases hc with ⟨_, ho2, rfl, rfl, rfl, rfl⟩ | ⟨h1, _⟩
      · unfold joL joE
        rw [if_neg (fun h => hk h.2), if_pos ⟨ho, ho2⟩, if_neg hk]
        exact ⟨rfl, rfl⟩
      · rw [h2] at h1; cases h1
    · rw [h] at h1; cases h1
  · intro h h2 hk V p cc hs
    rcases hb with ⟨_, ho, rfl, rfl, rfl, rfl⟩ | ⟨h1, _⟩
    · rcases hc with ⟨_, ho2, rfl, rfl, rfl, rfl⟩ | ⟨h1, _⟩
      · have hsz : byt l 1 + byt q 1 + (cat (twoS (cellS l) (byt l 1) (cellS q)) (byt l 1 + byt q 1)).length ≤ 140737488355328 := by
          have h1 := cat_two (cellS l) (cellS q) (byt l 1) (byt q 1) (fun s => s)
          rw [show (fun t => (fun s => s) (twoS (cellS l) (byt l 1) (cellS q) t)) = twoS (cellS l) (byt l 1) (cellS q) from rfl] at h1
          rw [h1, List.length_append]
          have h2 := cat_le0 hl (byt l 1)
          have h3 := cat_le0 hq (byt q 1)
          omega
        have := told_is true (byt q 0) (lnk q) (ok_small hq ho2).2.2.1 (ok_small hq ho2).2.2.2 p (byt l 1 + byt q 1) cc (twoS (cellS l) (byt l 1) (cellS q)) hsz V hs
        unfold joL joE
        rw [if_pos ⟨⟨ho, ho2⟩, hk⟩, if_pos ⟨ho, ho2⟩, if_pos hk, hk]
        exact this
      · rw [h2] at h1; cases h1
    · rw [h] at h1; cases h1

theorem own : ownKnob Try.prog.godebug = none := by kernel_rfl
theorem laidOutD : laidOutB Try.prog = true := by kernel_rfl
theorem cells5 : Try.prog.cellsOf 5 = 1 := by kernel_rfl
theorem cells23 : Try.prog.cellsOf 23 = 256 := by kernel_rfl
/-- A page that is handed in by value. -/
theorem open_page {H : Type} {enc : TypeId × Value → H} {W : World} {r : Reach} {base b0 : Nat} {spare : Nat → Bool} {held : Bool} {v : Value} {d : DataW H} {ps : List MemPlace} (hv : Value.okWide Try.prog W r b0 23 v) (h : DataW.Trod enc Try.prog W base spare held 23 v d ps) : ∃ l : List UInt8, l.length = 256 ∧ v = .agg (bc l) := by
  have hv' := hv
  simp only [Value.okWide, page_arr] at hv'
  obtain ⟨cs, rfl, hsz, _⟩ := hv'
  rw [cells23] at hsz
  obtain ⟨fuel, hf⟩ := h
  obtain ⟨xs, m, _, _, hlen, hxl, hx⟩ := DataW.trod_array page_arr hf
  have each : ∀ i, i < 256 → ∃ b : UInt8, cs[i]? = some (.int .u8 (b.toNat : Int)) := by
    intro i hi
    have hxi := hx i hi
    rw [cells5, Nat.mul_one, List.getElem?_eq_getElem (by omega)] at hxi
    obtain ⟨n, hn, _, wf⟩ := DataW.trod_int Try.underlying5 hxi
    have hc : cs[i]? = some (.int .u8 n) := by
      have : ((cs.toList.drop i).take 1) = [Value.int .u8 n] := hn
      have h2 := congrArg (fun l => l[0]?) this
      simpa [List.getElem?_take, List.getElem?_drop] using h2
    have e1 : IntKind.u8.min = 0 := by decide
    have e2 : IntKind.u8.max = 255 := by decide
    simp only [Lit.wf, Bool.and_eq_true, decide_eq_true_eq, e1, e2] at wf
    refine ⟨UInt8.ofNat n.toNat, ?_⟩
    rw [hc, UInt8.toNat_ofNat']
    congr 2
    omega
  obtain ⟨q, hq⟩ := choose_lt each
  refine ⟨(List.range 256).map q, by simp, ?_⟩
  congr 1
  apply Array.ext
  · simp [bc, bcl, hsz]
  · intro i h1 h2
    have hi : i < 256 := by omega
    have := hq i hi
    rw [Array.getElem?_eq_getElem h1] at this
    simp [bc, bcl]
    exact Option.some.inj this

set_option maxRecDepth 100000 in
theorem pageparts_lifted (os : Os) (started : os.Started) (H : Type) (enc : TypeId × Value → H) :
    ReturnsInHanded {} Try.checked os 6 .any (Rows.pagePartsSpec.pre6 enc Try.prog Try.f6 Rows.pagePartsRow.domain false) (Rows.pagePartsSpec.post enc Try.prog Try.f6 false true false false) := by
  refine returnsInHanded_of_change_sized (C := Try.checked) own started (by kernel_rfl) Try.func6
    (ChangeSpec.witness6 (enc := enc) (C := Try.checked) false ⟨#[], #[.agg (bc zs), .agg (bc zs), .int .i64 0], []⟩ 8 (by kernel_rfl) (by kernel_rfl) (by kernel_rfl) (by kernel_rfl)) ?_
  intro W base args ds gs before hval0 hW hcnd hsz0 _
  have hval : ∀ (j : Nat) t v, Try.f6.params[j]? = some t → args[j]? = some v → Value.okWide Try.prog W .any base t v := hval0
  have hsz : (DataW.weightsEach Try.prog (Try.f6.params.toList ++ Rows.pagePartsSpec.plain.varTypes Try.prog) (ds ++ gs)).all (· ≤ reachBytes) = true := hsz0
  have hW' := hW
  obtain ⟨p, q, hA0, hV, rfl, hfz, hnd⟩ := hW
  have hA : DataW.TrodAll enc Try.prog W 0 (fun _ => true) true Try.f6.params.toList args.toList ds p := hA0
  rw [Try.params6] at hA hval hsz
  obtain ⟨v0, vs0, d0, ds0, p0, q0, hargs, rfl, rfl, h0, r0⟩ := trodAll_cons hA
  obtain ⟨v1, vs1, d1, ds1, p1, q1, rfl, rfl, rfl, h1, r1⟩ := trodAll_cons r0
  obtain ⟨v2, vs2, d2, ds2, p2, q2, rfl, rfl, rfl, h2, r2⟩ := trodAll_cons r1
  obtain ⟨rfl, rfl, rfl⟩ := trodAll_nil r2
  obtain rfl : args = #[v0, v1, v2] := by cases args; simp_all
  obtain ⟨rfl, rfl⟩ := trodVars_none hV
  obtain ⟨l, hl, rfl⟩ := open_page (hval 0 23 v0 rfl rfl) h0
  obtain ⟨q', hq, rfl⟩ := open_page (hval 1 23 v1 rfl rfl) h1
  obtain ⟨a2, rfl, rfl, rfl, w2⟩ := open_int Try.underlying3 (hval 2 3 v2 rfl rfl) h2
  clear hA0 hval0 hsz0
  simp only [List.append_nil] at hW'
  have hlt0 : ∀ x ∈ p0, x.block < W.heap.size := fun x hx => hW'.lt x (by simp [hx])
  have hlt1 : ∀ x ∈ p1, x.block < W.heap.size := fun x hx => hW'.lt x (by simp [hx])
  have h0k : DataW.Trod enc Try.prog W 0 (fun _ => true) true 23 (.agg (bc l)) d0 p0 := h0
  have h1k : DataW.Trod enc Try.prog W 0 (fun _ => true) true 23 (.agg (bc q')) d1 p1 := h1
  have hargs0 : ∀ (W' : World), Below W.heap.size W W' → DataW.Trod enc Try.prog W' 0 (fun b => decide (b < W.heap.size)) true 23 (.agg (bc l)) d0 p0 :=
    fun W' hn => Below.trod laidOutD (by kernel_rfl) (of_decide_eq_true (by kernel_rfl)) h0k hn hlt0
  have hargs1 : ∀ (W' : World), Below W.heap.size W W' → DataW.Trod enc Try.prog W' 0 (fun b => decide (b < W.heap.size)) true 23 (.agg (bc q')) d1 p1 :=
    fun W' hn => Below.trod laidOutD (by kernel_rfl) (of_decide_eq_true (by kernel_rfl)) h1k hn hlt1
  refine (parts_any l q' hl hq a2 W).mono fun e W' ⟨he, bel⟩ => ?_
  subst he
  have hfin : DataW.TrodAll enc Try.prog W' 0 (fun b => decide (b < W.heap.size)) true [23, 23, 3] [.agg (bc l), .agg (bc q'), .int .i64 a2] [d0, d1, .lit (.int .i64 a2)] (p0 ++ p1) := by
    simpa using (trodAll_cons_mk (hargs0 W' bel) (trodAll_cons_mk (hargs1 W' bel) (trodAll_cons_mk (shut_int Try.underlying3 w2) trodAll_mk0)))
  exact ⟨_, rfl, _, _, _, [], _, [], hW', trodAll_mk1 (shut_bool Try.underlying4 _), hfin, rfl, bel.frame _, fun h => by cases h⟩

theorem pageParts_holds : Rows.PagePartsSaid :=
  OpenClaim.holds_of_wide 6 Try.f6 rfl rfl rfl rfl rfl rfl rfl ⟨rfl, rfl, rfl, rfl, rfl⟩ rfl rfl rfl rfl rfl (by kernel_rfl) Try.func6 (by kernel_rfl)
    (of_decide_eq_true (by kernel_rfl)) (by unfold Func.isWrapper; first | (rw [if_pos (by decide +kernel)]; kernel_rfl) | (rw [if_neg (by decide +kernel)]; exact ⟨rfl, rfl⟩))
    (fun os started H enc _ => pageparts_lifted os started H enc)
#print axioms pageParts_holds
end Go.Proofs.Ythhoeabenngiiaa
