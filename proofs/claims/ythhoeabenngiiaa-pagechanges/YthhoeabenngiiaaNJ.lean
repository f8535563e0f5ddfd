/- Proved here: for every page, place, cell and link the Go function bureaulaw05.PageChanges returns true, whatever is in memory: cells are put in and taken out, and the link is changed, as the reference says. No condition. -/
import Derived.Test.YthhoeabenngiiaaNI
import Derived.Test.YthhoeabenngiiaaRows
import Derived.WalkSpells
import Derived.WalkLawsBesides
import Derived.ShutString
import Derived.ChangeOld
import Derived.Below
import Derived.SizedLaws
import Derived.OpenShut
import Derived.Deep.Slices
import Derived.Carry
namespace Go.Proofs.Ythhoeabenngiiaa
open Go.ChangeShapes Go.WideShapes Go.ChangeAt Go.RowKit Go.Deep
open Go.ChangeMaps (open_string shut_string)
set_option linter.unusedVariables false

open Classical in
theorem changes_walk (l : List UInt8) (hl : l.length = 256) (i : Int) (c : ByteArray) (hc : c.size ≤ 140737488351232) (L : Nat) (hL : L < 4294967296) (w : World) :
    Calls Try.prog 5 #[.agg (bc l), .int .i64 i, .string c, .int .u32 (L : Int)] w fun e w' => e = .returned (.bool true) ∧ Below w.heap.size w w' := by
  by_cases ho : okB l
  · obtain ⟨s1, s2, s3, s4⟩ := ok_small hl ho
    have hroom := ok_room hl ho
    have hout : ∀ m, m < byt l 1 → byt l 1 - 1 + (cat (outS (cellS l) m) (byt l 1 - 1)).length ≤ 140737488355328 := fun m hm => by
      have h1 := cat_out (cellS l) m (byt l 1 - (m + 1)) (fun s => s)
      rw [show byt l 1 - 1 = m + (byt l 1 - (m + 1)) by omega]
      rw [show (fun t => (fun s => s) (outS (cellS l) m t)) = outS (cellS l) m from rfl] at h1
      rw [h1, List.length_append]
      have h2 := cat_le0 hl m
      have h3 := cat_le hl (byt l 1 - (m + 1)) (m + 1)
      omega
    have hput : ∀ m, m ≤ byt l 1 → byt l 1 + 1 + (cat (putS (cellS l) m c) (byt l 1 + 1)).length ≤ 140737488355328 := fun m hm => by
      have h1 := cat_put (cellS l) m (byt l 1 - m) c (fun s => s)
      rw [show byt l 1 + 1 = m + (1 + (byt l 1 - m)) by omega]
      rw [show (fun t => (fun s => s) (putS (cellS l) m c t)) = putS (cellS l) m c from rfl] at h1
      rw [h1, List.length_append, List.length_append]
      have h2 := cat_le0 hl m
      have h3 := cat_le hl (byt l 1 - m) m
      have h4 : c.data.toList.length = c.size := bytes_size c
      omega
    have hce : cErr 1 (fun _ => c) = if c.size = 0 then 2 else if 60 < c.size then 3 else 0 := by
      by_cases h0 : c.size = 0
      · rw [if_pos h0]; exact cErr_empty (j := 0) (by omega) h0
      · rw [if_neg h0, cErr_long (fun _ _ => h0)]
        unfold lErr
        by_cases h6 : 60 < c.size
        · rw [if_pos h6, if_pos ((longB_iff _ 1).2 ⟨0, by omega, h6⟩)]
        · rw [if_neg h6, if_neg (fun h => by obtain ⟨j, _, hj⟩ := (longB_iff _ 1).1 h; exact h6 hj)]
    refine changes_ok l hl (byt l 0) (lnk l) (byt l 1) (cellS l) s1 i c L (inL l i c) (outL l i) (tl (byt l 0) L (byt l 1) (cellS l))
      (if i < 0 ∨ (byt l 1 : Int) < i then zs else tl (byt l 0) (lnk l) (byt l 1 + 1) (putS (cellS l) i.toNat c)) (inE l i c) (outE l i) (te (byt l 1) (cellS l))
      (if i < 0 ∨ (byt l 1 : Int) < i then 4 else te (byt l 1 + 1) (putS (cellS l) i.toNat c)) (inL_length _ _ _) (outL_length _ _) (tl_length _ _ _ _) ?_ ?_ (fun V => insert_any l hl i c V) (fun V => delete_any l hl i V) (fun V => setLink_is l hl ho L hL V) ?_ ?_ ?_ ?_ ?_ ?_ ?_ ?_ w
    · split
      · exact zs_length
      · exact tl_length _ _ _ _
    · intro V
      exact (rread_walk l hl V).mono fun e w' h => h.1 ho
    · intro V p cc hs
      exact told_is true (byt l 0) L s3 hL p (byt l 1) cc (cellS l) (by omega) V hs
    · rintro m rfl hm V p cc hs
      have := told_is true (byt l 0) (lnk l) s3 s4 p (byt l 1 - 1) cc (outS (cellS l) m) (hout m hm) V hs
      unfold outL outE
      rw [if_pos ⟨ho, by omega⟩, if_pos ho, if_neg (by omega), Int.toNat_natCast]
      exact this
    · intro h
      unfold outL outE
      rw [if_neg (fun h' => h'.2 (by omega)), if_pos ho, if_pos (by omega)]
      exact ⟨rfl, rfl⟩
    · rintro m rfl hm V p cc hs
      have := told_is true (byt l 0) (lnk l) s3 s4 p (byt l 1 + 1) cc (putS (cellS l) m c) (hput m hm) V hs
      rw [if_neg (by omega), if_neg (by omega), Int.toNat_natCast]
      exact this
    · intro h
      rw [if_pos h, if_pos h]
      exact ⟨rfl, rfl⟩
    · intro h
      have hc2 : cErr 1 (fun _ => c) = 2 := by rw [hce, if_pos h]
      unfold inL inE
      rw [hc2]
      exact ⟨if_neg (fun h' => by cases h'.2.1), by rw [if_pos ho, if_pos (by decide)]⟩
    · intro h
      have hc2 : cErr 1 (fun _ => c) = 3 := by rw [hce, if_neg (by omega), if_pos h]
      unfold inL inE
      rw [hc2]
      exact ⟨if_neg (fun h' => by cases h'.2.1), by rw [if_pos ho, if_pos (by decide)]⟩
    · intro h0 h6
      have hc2 : cErr 1 (fun _ => c) = 0 := by rw [hce, if_neg h0, if_neg h6]
      unfold inL inE
      rw [hc2]
      refine ⟨?_, by rw [if_pos ho, if_neg (fun h => h rfl)]⟩
      by_cases hi : i < 0 ∨ (byt l 1 : Int) < i
      · rw [if_neg (fun h => h.2.2 hi), if_pos hi]
      · rw [if_pos ⟨ho, rfl, hi⟩, if_neg hi]
  · exact changes_not l hl ho i c L hL w

theorem own : ownKnob Try.prog.godebug = none := by kernel_rfl
theorem laidOutD : laidOutB Try.prog = true := by kernel_rfl
theorem cells5 : Try.prog.cellsOf 5 = 1 := by kernel_rfl
theorem cells23 : Try.prog.cellsOf 23 = 256 := by kernel_rfl
theorem nat_of_u32 {a : Int} (h : (Lit.int IntKind.u32 a).wf = true) : ∃ u : Nat, a = (u : Int) ∧ u < 4294967296 := by
  have e1 : IntKind.u32.min = 0 := by decide
  have e2 : IntKind.u32.max = 4294967295 := by decide
  simp only [Lit.wf, Bool.and_eq_true, decide_eq_true_eq, e1, e2] at h
  exact ⟨a.toNat, by omega, by omega⟩
/-- A page that is handed in by value. -/
theorem open_page {H : Type} {enc : TypeId × Value → H} {W : World} {r : Reach} {base b0 : Nat} {spare : Nat → Bool} {held : Bool} {v : Value} {d : DataW H} {ps : List MemPlace} (hv : Value.okWide Try.prog W r b0 23 v) (h : DataW.Trod enc Try.prog W base spare held 23 v d ps) : ∃ l : List UInt8, l.length = 256 ∧ v = .agg (bc l) := by
  have hv' := hv
  simp only [Value.okWide, page_arr] at hv'
  obtain ⟨cs, rfl, hsz, _⟩ := hv'
  rw [cells23] at hsz
  obtain ⟨fuel, hf⟩ := h
  obtain ⟨xs, m, _, _, hlen, hxl, hx⟩ := DataW.trod_array page_arr hf
  have each : ∀ i, i < 256 → ∃ b : UInt8, cs[i]? = some (.int .u8 (b.toNat : Int)) := by
    intro i hi
    have hxi := hx i hi
    rw [cells5, Nat.mul_one, List.getElem?_eq_getElem (by omega)] at hxi
    obtain ⟨n, hn, _, wf⟩ := DataW.trod_int Try.underlying5 hxi
    have hc : cs[i]? = some (.int .u8 n) := by
      have : ((cs.toList.drop i).take 1) = [Value.int .u8 n] := hn
      have h2 := congrArg (fun l => l[0]?) this
      simpa [List.getElem?_take, List.getElem?_drop] using h2
    have e1 : IntKind.u8.min = 0 := by decide
    have e2 : IntKind.u8.max = 255 := by decide
    simp only [Lit.wf, Bool.and_eq_true, decide_eq_true_eq, e1, e2] at wf
    refine ⟨UInt8.ofNat n.toNat, ?_⟩
    rw [hc, UInt8.toNat_ofNat']
    congr 2
    omega
  obtain ⟨q, hq⟩ := choose_lt each
  refine ⟨(List.range 256).map q, by simp, ?_⟩
  congr 1
  apply Array.ext
  · simp [bc, bcl, hsz]
  · intro i h1 h2
    have hi : i < 256 := by omega
    have := hq i hi
    rw [Array.getElem?_eq_getElem h1] at this
    simp [bc, bcl]
    exact Option.some.inj this

set_option maxRecDepth 100000 in
theorem pagechanges_lifted (os : Os) (started : os.Started) (H : Type) (enc : TypeId × Value → H) :
    ReturnsInHanded {} Try.checked os 5 .any (Rows.pageChangesSpec.pre6 enc Try.prog Try.f5 Rows.pageChangesRow.domain false) (Rows.pageChangesSpec.post enc Try.prog Try.f5 false true false false) := by
  refine returnsInHanded_of_change_sized (C := Try.checked) own started (by kernel_rfl) Try.func5
    (ChangeSpec.witness6 (enc := enc) (C := Try.checked) false ⟨#[], #[.agg (bc zs), .int .i64 0, .string ByteArray.empty, .int .u32 0], []⟩ 8 (by kernel_rfl) (by kernel_rfl) (by kernel_rfl) (by kernel_rfl)) ?_
  intro W base args ds gs before hval0 hW hcnd hsz0 _
  have hval : ∀ (j : Nat) t v, Try.f5.params[j]? = some t → args[j]? = some v → Value.okWide Try.prog W .any base t v := hval0
  have hsz : (DataW.weightsEach Try.prog (Try.f5.params.toList ++ Rows.pageChangesSpec.plain.varTypes Try.prog) (ds ++ gs)).all (· ≤ reachBytes) = true := hsz0
  have hW' := hW
  obtain ⟨p, q, hA0, hV, rfl, hfz, hnd⟩ := hW
  have hA : DataW.TrodAll enc Try.prog W 0 (fun _ => true) true Try.f5.params.toList args.toList ds p := hA0
  rw [Try.params5] at hA hval hsz
  obtain ⟨v0, vs0, d0, ds0, p0, q0, hargs, rfl, rfl, h0, r0⟩ := trodAll_cons hA
  obtain ⟨v1, vs1, d1, ds1, p1, q1, rfl, rfl, rfl, h1, r1⟩ := trodAll_cons r0
  obtain ⟨v2, vs2, d2, ds2, p2, q2, rfl, rfl, rfl, h2, r2⟩ := trodAll_cons r1
  obtain ⟨v3, vs3, d3, ds3, p3, q3, rfl, rfl, rfl, h3, r3⟩ := trodAll_cons r2
  obtain ⟨rfl, rfl, rfl⟩ := trodAll_nil r3
  obtain rfl : args = #[v0, v1, v2, v3] := by cases args; simp_all
  obtain ⟨rfl, rfl⟩ := trodVars_none hV
  obtain ⟨l, hl, rfl⟩ := open_page (hval 0 23 v0 rfl rfl) h0
  obtain ⟨a1, rfl, rfl, rfl, w1⟩ := open_int Try.underlying3 (hval 1 3 v1 rfl rfl) h1
  obtain ⟨a2, rfl, rfl, rfl, w2⟩ := open_string Try.underlying9 (hval 2 9 v2 rfl rfl) h2
  obtain ⟨a3, rfl, rfl, rfl, w3⟩ := open_int Try.underlying24 (hval 3 24 v3 rfl rfl) h3
  have hz : a2.data.toList.length ≤ reachBytes := sized_string hsz (j := 2) (t := 9) rfl rfl
  have hc : a2.size ≤ 140737488351232 := by
    rw [← bytes_size]
    exact Nat.le_trans hz (by decide)
  clear hA0 hval0 hsz0 hz
  simp only [List.append_nil] at hW'
  have hlt0 : ∀ x ∈ p0, x.block < W.heap.size := fun x hx => hW'.lt x (by simp [hx])
  have h0k : DataW.Trod enc Try.prog W 0 (fun _ => true) true 23 (.agg (bc l)) d0 p0 := h0
  have hargs0 : ∀ (W' : World), Below W.heap.size W W' → DataW.Trod enc Try.prog W' 0 (fun b => decide (b < W.heap.size)) true 23 (.agg (bc l)) d0 p0 :=
    fun W' hn => Below.trod laidOutD (by kernel_rfl) (of_decide_eq_true (by kernel_rfl)) h0k hn hlt0
  obtain ⟨L, rfl, hL⟩ := nat_of_u32 w3
  refine (changes_walk l hl a1 a2 hc L hL W).mono fun e W' ⟨he, bel⟩ => ?_
  subst he
  have hfin : DataW.TrodAll enc Try.prog W' 0 (fun b => decide (b < W.heap.size)) true [23, 3, 9, 24] [.agg (bc l), .int .i64 a1, .string a2, .int .u32 (L : Int)] [d0, .lit (.int .i64 a1), .lit (.string a2.data.toList), .lit (.int .u32 (L : Int))] p0 := by
    simpa using (trodAll_cons_mk (hargs0 W' bel) (trodAll_cons_mk (shut_int Try.underlying3 w1) (trodAll_cons_mk (shut_string Try.underlying9 w2) (trodAll_cons_mk (shut_int Try.underlying24 w3) trodAll_mk0))))
  exact ⟨_, rfl, _, _, _, [], _, [], hW', trodAll_mk1 (shut_bool Try.underlying4 _), hfin, rfl, bel.frame _, fun h => by cases h⟩

theorem pageChanges_holds : Rows.PageChangesSaid :=
  OpenClaim.holds_of_wide 5 Try.f5 rfl rfl rfl rfl rfl rfl rfl ⟨rfl, rfl, rfl, rfl, rfl⟩ rfl rfl rfl rfl rfl (by kernel_rfl) Try.func5 (by kernel_rfl)
    (of_decide_eq_true (by kernel_rfl)) (by unfold Func.isWrapper; first | (rw [if_pos (by decide +kernel)]; kernel_rfl) | (rw [if_neg (by decide +kernel)]; exact ⟨rfl, rfl⟩))
    (fun os started H enc _ => pagechanges_lifted os started H enc)
#print axioms pageChanges_holds
end Go.Proofs.Ythhoeabenngiiaa
