/- Frames of the log: whether one may be. -/
import Derived.Test.YteocmhbllckpjaaGreatB1
import Derived.Test.YteocmhbllckpjaaGreatAJE
namespace Go.Proofs.YteocmhbllckpjaaGreat
open Go.ChangeShapes Go.WideShapes Go.ChangeAt Go.RowKit
open Go.ChangeMaps (setBlock)
set_option linter.unusedVariables false

theorem fcl_all (n : Int) (p : List UInt8) (e : Nat) (pl : Bool) : (fcl n p e pl).toArray.all (·.oneCell') = true := by
  refine all_oneCell_toArray ?_
  intro v hv
  unfold fcl at hv
  simp only [List.mem_cons, List.mem_append, List.not_mem_nil, or_false] at hv
  rcases hv with rfl | hv | rfl | rfl
  · rfl
  · exact one_bcs p v hv
  · rfl
  · rfl
theorem u167 : ∃ d, Tryz.prog.underlying 167 = some d ∧ d.isRow = true := ⟨_, Tryz.underlying167, rfl⟩
theorem info167 : (Tryz.prog.info? 167).map (·.size) = some 259 := by kernel_rfl
theorem size167 {n : Int} {p : List UInt8} {e : Nat} {pl : Bool} (h : p.length = 256) : (Tryz.prog.info? 167).map (·.size) = some (fcl n p e pl).toArray.size := by rw [List.size_toArray, fcl_length _ _ _ h]; exact info167
theorem at167L {P : Program} {ops : Array Oper} {Q : Exit → Act → World → Prop} {d : Option Tmp} {x : Operand} {ty : TypeId} {pos : String} {af : Array Edge} {gd : Option (Nat × Bool)} {rest : List Oper} {a : Act} {w : World} (h : wpList P ops Q ({ dst := d, op := .load 167 x, type := ty, pos := pos, after := af, guard := gd } :: rest) a w) : wpList P ops Q ({ dst := d, op := .load 167 x, type := ty, pos := pos, after := af, guard := gd } :: rest) a w := h
theorem at167S {P : Program} {ops : Array Oper} {Q : Exit → Act → World → Prop} {d : Option Tmp} {x y : Operand} {ty : TypeId} {pos : String} {af : Array Edge} {gd : Option (Nat × Bool)} {rest : List Oper} {a : Act} {w : World} (h : wpList P ops Q ({ dst := d, op := .store 167 x y, type := ty, pos := pos, after := af, guard := gd } :: rest) a w) : wpList P ops Q ({ dst := d, op := .store 167 x y, type := ty, pos := pos, after := af, guard := gd } :: rest) a w := h
theorem fcl_num (n : Int) (p : List UInt8) (e : Nat) (pl : Bool) : (fcl n p e pl)[0]? = some (.int .i64 n) := rfl

theorem opwp_load {o : Oper} {a : Act} {w : World} {K : Act → World → Prop} {Q : Exit → Act → World → Prop} {t : TypeId} {g : Nat} {v : Value} {x : Operand} (hld : (loadVar t ⟨g, 0, none⟩).run Tryz.prog w = .ok v w) (ho : o.op = .load t x) (hx : a.eval x = .pointer (some ⟨g, 0, none⟩)) (hk : K (a.put o.dst v) w) : Oper.wp Tryz.prog o a w K Q := by
  unfold Oper.wp execOp
  simp only [ho, hx, Instr.loadAt, Instr.sureAddr, Sem.run_bind, Sem.run_pure, Result.andThen_ok, hld]
  exact hk

set_option maxHeartbeats 2000000 in
set_option maxRecDepth 10000 in
/-- A frame that a commit may have. -/
theorem mayBe_w (w : World) (n : Nat) (p : List UInt8) (e : Nat) (h : p.length = 256) (hn : n ≤ 4096) (he : e ≤ 4097) (hne : n ≠ 0 ∨ e ≠ 0) : Calls Tryz.prog 118 #[.agg (fcl n p e true).toArray] w fun x w' => x = .returned (.bool true) ∧ w.grownBy w' none := by
  have HE := hideJ (fun V => ends_w V (n : Int) p e true h)
  obtain ⟨X, hX⟩ : ∃ X, X = (fcl n p e true).toArray := ⟨_, rfl⟩
  have HX := hideJ hX
  have hb : Blk (w.alloc (.cells X 167)) w.heap.size X 167 := alloc_new _ _
  have c0 := (hb.cell 0).trans (show _ = some (Value.int .i64 (n : Int)) by rw [hX]; simpa using fcl_num n p e true)
  have c1 := (hb.cell 257).trans (show _ = some (Value.int .u32 (e : Int)) by rw [hX]; simpa using fcl_end n e true h)
  have c2 := (hb.cell 258).trans (show _ = some (Value.bool true) by rw [hX]; simpa using fcl_plain n e true h)
  have HG := hideJ (World.grownBy_alloc w (.cells X 167) none)
  have HB := hideJ hb
  have HI := hideJ (size167 (n := (n : Int)) (p := p) (e := e) (pl := true) h)
  rw [← hX] at HI HE ⊢
  have l1 : (n : Int) ≤ 4096 := by omega
  have l2 : (e : Int) ≤ 4097 := by omega
  clear hb hX HX
  by_cases h0 : n = 0
  · subst h0
    rw [show ((0 : Nat) : Int) = 0 from rfl] at c0
    clear l1
    have HEe : Hid (decide (e ≠ 0) = true) := by show _ = _; simp; omega
    rw [HEe.out] at HE
    obtain ⟨d, hd, hr⟩ := u167
    have hld := run_loadVar_mid (P := Tryz.prog) (w.alloc (.cells X 167)) w.heap.size 0 167 X.toList d (range_of_blk HB.out) hd hr (by simpa using HI.out)
    rw [show X.toList.toArray = X from rfl] at hld
    clear hd hr
    go_enter Tryz.func118, Tryz.ntmps118
    go_wp2
    refine opwp_load hld (by rfl) (by rfl) ?_
    rename_i hK
    refine hK _ _ ?_
    simp only [Act.put]
    go_wp2_with (first
      | (go_at_call 84; with_reducible refine Calls.mono (HE.out _) ?_; rintro x w4 ⟨rfl, hg⟩; have HG4 := hideJ (grown_trans' HG.out hg); clear hg))
    go_ret
    exact ⟨rfl, HG4.out⟩
  · have h1 : ((n : Int) == 0) = false := by simp [h0]
    have h2 : ¬ (n : Int) = 0 := by omega
    go_enter Tryz.func118, Tryz.ntmps118
    go_wp2_with (first
      | ((with_reducible refine at167L ?_); refine wp_loadB (c := X) HI.out u167 HB.out _ (by rfl) (by rfl) (by rfl) ?_))
    go_ret
    exact ⟨rfl, HG.out⟩
end Go.Proofs.YteocmhbllckpjaaGreat
