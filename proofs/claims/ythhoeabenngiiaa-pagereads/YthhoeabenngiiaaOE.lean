/- Proved here: for every page, every place and every number the Go function bureaulaw05.PageReads returns true, whatever is in memory: what a page tells is what the reference says, and its cells are gone over as they are. No condition. -/
import Derived.Test.YthhoeabenngiiaaOC
import Derived.Test.YthhoeabenngiiaaOD
import Derived.Test.YthhoeabenngiiaaRows
import Derived.WalkSpells
import Derived.WalkLawsBesides
import Derived.ShutString
import Derived.ChangeOld
import Derived.Below
import Derived.SizedLaws
import Derived.OpenShut
import Derived.Deep.Slices
import Derived.Carry
namespace Go.Proofs.Ythhoeabenngiiaa
open Go.ChangeShapes Go.WideShapes Go.ChangeAt Go.RowKit Go.Deep
open Go.ChangeMaps (open_string shut_string)
set_option linter.unusedVariables false

theorem rroom_any (is : Bool) (k L : Int) (n : Nat) (S : Nat → ByteArray) (hs : n + (cat S n).length ≤ 140737488355328) (V : World) (p : Option Addr) (cc : Nat) (h : StrP V p n S) :
    Calls Try.prog 9 #[bodyV is k L (.slice p n cc)] V fun e w' => e = .returned (.int .i64 (250 - ((n + (cat S n).length : Nat) : Int))) ∧ Below V.heap.size V w' := by
  by_cases h0 : n = 0
  · subst h0
    exact rroom_nil is k L p cc V
  · obtain ⟨g, rfl, hst⟩ := h (by omega)
    exact rroom_walk is k L g 0 n cc S hs V hst

theorem reads_any (l : List UInt8) (hl : l.length = 256) (i early : Int) (w : World) :
    Calls Try.prog 3 #[.agg (bc l), .int .i64 i, .int .i64 early] w fun e w' => e = .returned (.bool true) ∧ Below w.heap.size w w' := by
  obtain ⟨c, hcv, hc, hcS, hor⟩ := cells_facts l hl
  by_cases ho : okB l
  · obtain rfl : c = byt l 1 := by rcases hor with ⟨_, h⟩ | ⟨h, _⟩; exact h; exact absurd ho h
    have hrm := ok_room hl ho
    have hkind : kindV l = byt l 0 := if_pos ho
    have hlink : linkV l = lnk l := if_pos ho
    have hroom : (roomV l : Int) = 250 - ((byt l 1 + (cat (cellS l) (byt l 1)).length : Nat) : Int) := by
      obtain ⟨o1, o2, o3, o4, o5⟩ := ho
      have hn : 6 + byt l 1 + sm l (byt l 1) = endN l := rfl
      rw [show roomV l = 256 - endN l from if_pos ⟨o1, o2, o3, o4, o5⟩, cat_cells0, sub_length (by omega)]
      omega
    obtain ⟨cS, ec, hce, hout, hin⟩ : ∃ (cS : ByteArray) (ec : Int), (∀ V, Calls Try.prog 15 #[.agg (bc l), .int .i64 i] V fun e w' => e = .returned (.tuple #[.string cS, .int .i64 ec]) ∧ Below V.heap.size V w') ∧ ((i < 0 ∨ (byt l 1 : Int) ≤ i) → cS = ⟨#[]⟩ ∧ ec = 4) ∧ (∀ m : Nat, i = (m : Int) → m < byt l 1 → cS = cellS l m ∧ ec = 0) := by
      by_cases hi : i < 0 ∨ (byt l 1 : Int) ≤ i
      · have hpl : plE l i ((cntV l : Int) - 1) = 4 := by
          unfold plE
          rw [if_pos ho, if_pos (by rw [hcv]; omega)]
        exact ⟨⟨#[]⟩, 4, fun V => cell_bad l hl i 4 hpl (by decide) V, fun _ => ⟨rfl, rfl⟩, fun m hm hlt => by omega⟩
      · obtain ⟨m, rfl⟩ : ∃ m : Nat, i = (m : Int) := ⟨i.toNat, by omega⟩
        refine ⟨cellS l m, 0, fun V => ?_, fun h => absurd h hi, fun m' hm _ => ?_⟩
        · have := cell_ok l hl ho m (by omega) V
          rw [cellS_eq] at this
          exact this
        · obtain rfl : m = m' := by omega
          exact ⟨rfl, rfl⟩
    refine reads_ok l hl (byt l 0) (lnk l) (byt l 1) (byt_lt l 0) (cellS l) (250 - ((byt l 1 + (cat (cellS l) (byt l 1)).length : Nat) : Int)) i early ec cS ?_ ?_ ?_ ?_ ?_ ?_ ?_ hce ?_ hout hin w
    · exact fun V => (rread_walk l hl V).mono fun e w' h => by
        obtain ⟨p, ⟨cc, he, _, _⟩, hs, hb⟩ := h.1 ho
        exact ⟨p, ⟨cc, he⟩, hs, hb⟩
    · exact fun V p cc h => rroom_any true _ _ _ _ (by omega) V p cc h
    · exact fun V => by have := check_walk l hl V; rw [okE_yes ho] at this; exact this
    · exact fun V => by have := kind_walk l hl V; rw [hkind] at this; exact this
    · exact fun V => by have := count_walk l hl V; rw [hcv] at this; exact this
    · exact fun V => by have := link_walk l hl V; rw [hlink] at this; exact this
    · exact fun V => by have := room_walk l hl V; rw [hroom] at this; exact this
    · exact fun V p cc h => gone_walk l hl (byt l 1) hcv hc (cellS l) hcS p cc early V h
  · obtain rfl : c = 0 := by rcases hor with ⟨h, _⟩ | ⟨_, h⟩; exact absurd h ho; exact h
    have hkind : kindV l = 0 := if_neg ho
    have hlink : linkV l = 0 := if_neg ho
    have hroom : roomV l = 0 := if_neg ho
    refine reads_not l hl 0 0 0 (by omega) noS 250 i early 8 ⟨#[]⟩ ?_ ?_ ?_ ?_ ?_ ?_ ?_ ?_ ?_ rfl rfl rfl w
    · exact fun V => (rread_walk l hl V).mono fun e w' h => ⟨none, ⟨0, (h.2 ho).1⟩, fun h0 => absurd h0 (by omega), (h.2 ho).2⟩
    · exact fun V p cc _ => rroom_nil false _ _ p cc V
    · exact fun V => by have := check_walk l hl V; rw [okE_no ho] at this; exact this
    · exact fun V => by have := kind_walk l hl V; rw [hkind] at this; exact this
    · exact fun V => by have := count_walk l hl V; rw [hcv] at this; exact this
    · exact fun V => by have := link_walk l hl V; rw [hlink] at this; exact this
    · exact fun V => by have := room_walk l hl V; rw [hroom] at this; exact this
    · have hpl : plE l i ((cntV l : Int) - 1) = 8 := by
        unfold plE
        rw [if_neg ho]
      exact fun V => cell_bad l hl i 8 hpl (by decide) V
    · exact fun V p cc h => gone_walk l hl 0 hcv hc noS (fun k hk => absurd hk (by omega)) p cc early V h

theorem own : ownKnob Try.prog.godebug = none := by kernel_rfl
theorem laidOutD : laidOutB Try.prog = true := by kernel_rfl
theorem cells5 : Try.prog.cellsOf 5 = 1 := by kernel_rfl
theorem cells23 : Try.prog.cellsOf 23 = 256 := by kernel_rfl
/-- A page that is handed in by value. -/
theorem open_page {H : Type} {enc : TypeId × Value → H} {W : World} {r : Reach} {base b0 : Nat} {spare : Nat → Bool} {held : Bool} {v : Value} {d : DataW H} {ps : List MemPlace} (hv : Value.okWide Try.prog W r b0 23 v) (h : DataW.Trod enc Try.prog W base spare held 23 v d ps) : ∃ l : List UInt8, l.length = 256 ∧ v = .agg (bc l) := by
  have hv' := hv
  simp only [Value.okWide, page_arr] at hv'
  obtain ⟨cs, rfl, hsz, _⟩ := hv'
  rw [cells23] at hsz
  obtain ⟨fuel, hf⟩ := h
  obtain ⟨xs, m, _, _, hlen, hxl, hx⟩ := DataW.trod_array page_arr hf
  have each : ∀ i, i < 256 → ∃ b : UInt8, cs[i]? = some (.int .u8 (b.toNat : Int)) := by
    intro i hi
    have hxi := hx i hi
    rw [cells5, Nat.mul_one, List.getElem?_eq_getElem (by omega)] at hxi
    obtain ⟨n, hn, _, wf⟩ := DataW.trod_int Try.underlying5 hxi
    have hc : cs[i]? = some (.int .u8 n) := by
      have : ((cs.toList.drop i).take 1) = [Value.int .u8 n] := hn
      have h2 := congrArg (fun l => l[0]?) this
      simpa [List.getElem?_take, List.getElem?_drop] using h2
    have e1 : IntKind.u8.min = 0 := by decide
    have e2 : IntKind.u8.max = 255 := by decide
    simp only [Lit.wf, Bool.and_eq_true, decide_eq_true_eq, e1, e2] at wf
    refine ⟨UInt8.ofNat n.toNat, ?_⟩
    rw [hc, UInt8.toNat_ofNat']
    congr 2
    omega
  obtain ⟨q, hq⟩ := choose_lt each
  refine ⟨(List.range 256).map q, by simp, ?_⟩
  congr 1
  apply Array.ext
  · simp [bc, bcl, hsz]
  · intro i h1 h2
    have hi : i < 256 := by omega
    have := hq i hi
    rw [Array.getElem?_eq_getElem h1] at this
    simp [bc, bcl]
    exact Option.some.inj this

set_option maxRecDepth 100000 in
theorem pagereads_lifted (os : Os) (started : os.Started) (H : Type) (enc : TypeId × Value → H) :
    ReturnsInHanded {} Try.checked os 3 .any (Rows.pageReadsSpec.pre6 enc Try.prog Try.f3 Rows.pageReadsRow.domain false) (Rows.pageReadsSpec.post enc Try.prog Try.f3 false true false false) := by
  refine returnsInHanded_of_change_sized (C := Try.checked) own started (by kernel_rfl) Try.func3
    (ChangeSpec.witness6 (enc := enc) (C := Try.checked) false ⟨#[], #[.agg (bc zs), .int .i64 0, .int .i64 0], []⟩ 8 (by kernel_rfl) (by kernel_rfl) (by kernel_rfl) (by kernel_rfl)) ?_
  intro W base args ds gs before hval0 hW hcnd hsz0 _
  have hval : ∀ (j : Nat) t v, Try.f3.params[j]? = some t → args[j]? = some v → Value.okWide Try.prog W .any base t v := hval0
  have hsz : (DataW.weightsEach Try.prog (Try.f3.params.toList ++ Rows.pageReadsSpec.plain.varTypes Try.prog) (ds ++ gs)).all (· ≤ reachBytes) = true := hsz0
  have hW' := hW
  obtain ⟨p, q, hA0, hV, rfl, hfz, hnd⟩ := hW
  have hA : DataW.TrodAll enc Try.prog W 0 (fun _ => true) true Try.f3.params.toList args.toList ds p := hA0
  rw [Try.params3] at hA hval hsz
  obtain ⟨v0, vs0, d0, ds0, p0, q0, hargs, rfl, rfl, h0, r0⟩ := trodAll_cons hA
  obtain ⟨v1, vs1, d1, ds1, p1, q1, rfl, rfl, rfl, h1, r1⟩ := trodAll_cons r0
  obtain ⟨v2, vs2, d2, ds2, p2, q2, rfl, rfl, rfl, h2, r2⟩ := trodAll_cons r1
  obtain ⟨rfl, rfl, rfl⟩ := trodAll_nil r2
  obtain rfl : args = #[v0, v1, v2] := by cases args; simp_all
  obtain ⟨rfl, rfl⟩ := trodVars_none hV
  obtain ⟨l, hl, rfl⟩ := open_page (hval 0 23 v0 rfl rfl) h0
  obtain ⟨a1, rfl, rfl, rfl, w1⟩ := open_int Try.underlying3 (hval 1 3 v1 rfl rfl) h1
  obtain ⟨a2, rfl, rfl, rfl, w2⟩ := open_int Try.underlying3 (hval 2 3 v2 rfl rfl) h2
  clear hA0 hval0 hsz0
  simp only [List.append_nil] at hW'
  have hlt0 : ∀ x ∈ p0, x.block < W.heap.size := fun x hx => hW'.lt x (by simp [hx])
  have h0k : DataW.Trod enc Try.prog W 0 (fun _ => true) true 23 (.agg (bc l)) d0 p0 := h0
  have hargs0 : ∀ (W' : World), Below W.heap.size W W' → DataW.Trod enc Try.prog W' 0 (fun b => decide (b < W.heap.size)) true 23 (.agg (bc l)) d0 p0 :=
    fun W' hn => Below.trod laidOutD (by kernel_rfl) (of_decide_eq_true (by kernel_rfl)) h0k hn hlt0
  refine (reads_any l hl a1 a2 W).mono fun e W' ⟨he, bel⟩ => ?_
  subst he
  have hfin : DataW.TrodAll enc Try.prog W' 0 (fun b => decide (b < W.heap.size)) true [23, 3, 3] [.agg (bc l), .int .i64 a1, .int .i64 a2] [d0, .lit (.int .i64 a1), .lit (.int .i64 a2)] p0 := by
    simpa using (trodAll_cons_mk (hargs0 W' bel) (trodAll_cons_mk (shut_int Try.underlying3 w1) (trodAll_cons_mk (shut_int Try.underlying3 w2) trodAll_mk0)))
  exact ⟨_, rfl, _, _, _, [], _, [], hW', trodAll_mk1 (shut_bool Try.underlying4 _), hfin, rfl, bel.frame _, fun h => by cases h⟩

theorem pageReads_holds : Rows.PageReadsSaid :=
  OpenClaim.holds_of_wide 3 Try.f3 rfl rfl rfl rfl rfl rfl rfl ⟨rfl, rfl, rfl, rfl, rfl⟩ rfl rfl rfl rfl rfl (by kernel_rfl) Try.func3 (by kernel_rfl)
    (of_decide_eq_true (by kernel_rfl)) (by unfold Func.isWrapper; first | (rw [if_pos (by decide +kernel)]; kernel_rfl) | (rw [if_neg (by decide +kernel)]; exact ⟨rfl, rfl⟩))
    (fun os started H enc _ => pagereads_lifted os started H enc)
#print axioms pageReads_holds
end Go.Proofs.Ythhoeabenngiiaa
