/- A step's end; Write; what a disk tells. -/
import Derived.Test.YteocmhbllckpjaaGreatN
import Derived.Test.YteocmhbllckpjaaGreatJ
namespace Go.Proofs.YteocmhbllckpjaaGreat
open Go.ChangeShapes Go.WideShapes Go.ChangeAt Go.RowKit
open Go.ChangeMaps (setBlock)
set_option linter.unusedVariables false

/-- A disk behind a step. -/
def stepped (D : DS) : DS := { D with steps := D.steps + 1, fuse := if D.fuse = 0 then 0 else D.fuse - 1, down := D.down || D.fuse == 1 }
/-- What a step answers. -/
def ans (D : DS) : Int := if D.fuse = 1 then 7 else 0

theorem Only.cellAt (w : World) (b o : Nat) (v : Value) : Only [b] w (w.setCell ⟨b, o, none⟩ v) := Only.setCell w ⟨b, o, none⟩ v

theorem endStep_rep (w : World) (base b : Nat) (D : DS) (who : Nat → Nat) (R : Rep w base b D who) (hf0 : 0 ≤ D.fuse) (hf1 : D.fuse ≤ 9223372036854775807) (hs0 : 0 ≤ D.steps) (hs1 : D.steps ≤ 1000000) :
    Calls Tryz.prog 70 #[.pointer (some ⟨b, 0, none⟩)] w fun e w' => e = .returned (.int .i64 (ans D)) ∧ Rep w' base b (stepped D) who ∧ Below base w w' := by
  have h3 := R.blk.cell 3
  have h4 := R.blk.cell 4
  have f4 := R.blk.frozen 4
  have f3 := R.blk.frozen 3
  have f6 := R.blk.frozen 6
  have h6 := R.blk.cell 6
  simp at h3 h4 h6
  have B := R.blk
  obtain ⟨S, hS⟩ : ∃ S : Int, S = D.steps + 1 := ⟨_, rfl⟩
  have HS : Hid (S = D.steps + 1) := hS
  rcases Int.lt_trichotomy D.fuse 1 with h | h | h
  · have h0 : D.fuse = 0 := by omega
    rw [h0] at h3
    refine (endStep_none w b D.mb D.cv D.room D.steps D.starts D.down (by have := R.blk; unfold DS.cells at this; rw [h0] at this; exact this) hs0 hs1).mono ?_
    rintro e w' ⟨rfl, rfl⟩
    refine ⟨by simp [ans, h0], R.setD (Only.cellAt _ _ _ _) (stepped D) rfl rfl rfl rfl rfl ?_, (Only.cellAt _ _ _ _).below R.base_le (by simp; exact R.lowb)⟩
    have := B.set 4 (.int .i64 (D.steps + 1))
    simpa [stepped, h0, DS.cells] using this
  · rw [h] at h3
    have HB : Hid (Blk w b D.cells 76) := B
    clear B
    have c1 : (w.setCell ⟨b, 4, none⟩ (.int .i64 (D.steps + 1))).cell? ⟨b, 3, none⟩ = some (.int .i64 1) := by
      rw [(HB.out.set 4 _).cell 3]; simp [h]
    have c2 : ((w.setCell ⟨b, 4, none⟩ (.int .i64 (D.steps + 1))).setCell ⟨b, 3, none⟩ (.int .i64 0)).cell? ⟨b, 3, none⟩ = some (.int .i64 0) := by
      rw [((HB.out.set 4 _).set 3 _).cell 3]; simp
    have HR : Hid (Rep w base b D who) := R
    clear R hS
    go_enter Tryz.func70, Tryz.ntmps70
    go_wp2
    go_ret
    have R := HR.out
    refine ⟨by simp [ans, h], R.setD (((Only.cellAt _ _ _ _).trans (Only.cellAt _ _ _ _)).trans (Only.cellAt _ _ _ _)) (stepped D) rfl rfl rfl rfl rfl ?_, (((Only.cellAt _ _ _ _).trans (Only.cellAt _ _ _ _)).trans (Only.cellAt _ _ _ _)).below R.base_le (by simp; exact R.lowb)⟩
    have := ((R.blk.set 4 (.int .i64 (D.steps + 1))).set 3 (.int .i64 0)).set 6 (.bool true)
    simpa [stepped, h, DS.cells] using this
  · have HB : Hid (Blk w b D.cells 76) := B
    clear B
    have HR : Hid (Rep w base b D who) := R
    obtain ⟨F, hF⟩ : ∃ F : Int, F = D.fuse := ⟨_, rfl⟩
    have hF1 : 1 < F := by omega
    have hF2 : F ≤ 9223372036854775807 := by omega
    rw [← hF] at h3
    have e0 : (F == 0) = false := by simp; omega
    have e1 : (0 : Int) < F - 1 := by omega
    have HF : Hid (F = D.fuse) := hF
    clear R hS hF h
    go_enter Tryz.func70, Tryz.ntmps70
    go_wp2
    go_ret
    have R := HR.out
    have hF := HF.out
    have h1 : D.fuse ≠ 1 := by omega
    have h0 : D.fuse ≠ 0 := by omega
    refine ⟨by simp [ans, h1], R.setD ((Only.cellAt _ _ _ _).trans (Only.cellAt _ _ _ _)) (stepped D) rfl rfl rfl rfl rfl ?_, ((Only.cellAt _ _ _ _).trans (Only.cellAt _ _ _ _)).below R.base_le (by simp; exact R.lowb)⟩
    have := ((R.blk.set 4 (.int .i64 (D.steps + 1))).set 3 (.int .i64 (F - 1)))
    have hb1 : (D.fuse == 1) = false := by simp [h1]
    simpa [stepped, h0, h1, hb1, DS.cells, hF] using this


/-- The number of bytes of a file, as seen. -/
def flen (D : DS) (nm : ByteArray) : Nat := ((look D.fs nm).map fun f => f.seen.length).getD 0
def total (D : DS) : Nat := tot (fun f => f.seen.length) D.fs

theorem Rep.sizes {w : World} {base b : Nat} {D : DS} {who : Nat → Nat} (R : Rep w base b D who) : ∀ f ∈ D.fs, ∃ a c, w.cell? ⟨f.eb, 0, none⟩ = some (.slice a f.seen.length c) := fun f hf => by
  obtain ⟨a, c, h⟩ := ownsRow_form (R.osv f hf)
  exact ⟨a, c, by rw [(R.ent f hf).cell 0, ← h]; rfl⟩

/-- What holds of every disk here. -/
structure Fine (D : DS) : Prop where
  lens : ∀ f ∈ D.fs, f.seen.length ≤ 1048576
  chn : D.chs.length + 20000 ≤ 1000000000
  tot : total D ≤ 1000000000
  f0 : 0 ≤ D.fuse
  f1 : D.fuse ≤ 9223372036854775807
  s0 : 0 ≤ D.steps
  s1 : D.steps ≤ 1000000

theorem misfit_rep (w : World) (base b : Nat) (D : DS) (who : Nat → Nat) (R : Rep w base b D who) (hdn : D.down = false) (at_ n : Nat) (h : at_ + n ≤ 1048576) :
    Calls Tryz.prog 69 #[.pointer (some ⟨b, 0, none⟩), .int .i64 at_, .int .i64 n] w fun e w' => e = .returned (.int .i64 0) ∧ w = w' :=
  misfit_up w b D.mb D.cv D.room D.fuse D.steps D.starts at_ n (by have := R.blk; unfold DS.cells at this; rw [hdn] at this; exact this) (by omega) (by omega) (by omega)

theorem Entered.facts {D D1 : DS} {nm : ByteArray} {f1 : FL} (h : Entered D nm f1 D1) : D1.fuse = D.fuse ∧ D1.steps = D.steps ∧ D1.down = D.down ∧ D1.room = D.room ∧ D1.starts = D.starts ∧ D1.chs = D.chs := by
  rcases h with ⟨_, rfl⟩ | ⟨_, eb, _, rfl⟩ <;> exact ⟨rfl, rfl, rfl, rfl, rfl, rfl⟩

theorem write_ok (w : World) (base b : Nat) (D : DS) (who : Nat → Nat) (R : Rep w base b D who) (F : Fine D) (hdn : D.down = false) (nm : ByteArray) (s : ByteArray) (at_ : Nat) (hs : 0 < s.size) (hend : at_ + s.size ≤ 1048576)
    (hroom : at_ + s.size ≤ flen D nm ∨ (total D : Int) + ((at_ + s.size : Nat) - (flen D nm : Int)) ≤ D.room) :
    Calls Tryz.prog 35 #[.pointer (some ⟨b, 0, none⟩), .string nm, .int .i64 at_, .string s] w fun e w' => e = .returned (.int .i64 (ans D)) ∧ Below base w w' ∧
      ∃ f1 D1 v' cv' who', Entered D nm f1 D1 ∧ Rep w' base b (stepped { D1 with fs := upd D1.fs f1.born fun x => { x with sv := v', seen := wseen f1.seen at_ s.data.toList }, cv := cv', chs := D1.chs ++ wchs nm f1.seen at_ s.data.toList }) who' := by
  have M := misfit_rep w base b D who R hdn at_ s.size hend
  obtain ⟨en, hen0⟩ : ∃ en : Nat, en = at_ + s.size := ⟨_, rfl⟩
  have hen : (at_ : Int) + (s.size : Int) = (en : Int) := by omega
  have L : Calls Tryz.prog 71 #[.pointer (some ⟨b, 0, none⟩), .string nm, .int .i64 en] w fun e w' => e = .returned (.bool false) ∧ w.grownBy w' none := by
    by_cases h : en ≤ flen D nm
    · by_cases h2 : flen D nm ≤ 1048576
      · exact lacks_no w b D.mb D.cv D.room D.fuse D.steps D.starts D.down D.fs D.clock nm (fun f => f.seen.length) (flen D nm) en R.blk R.map R.sizes rfl h h2
      · exfalso; apply h2
        unfold flen
        cases hl : look D.fs nm with
        | none => simp
        | some f => simpa using F.lens f (List.mem_of_find?_eq_some hl)
    · refine (lacks_yes w b D.mb D.cv D.room D.fuse D.steps D.starts D.down D.fs D.clock nm (fun f => f.seen.length) (flen D nm) en R.blk R.map R.born R.nodup R.sizes F.tot rfl (by omega) (by omega)).mono ?_
      rintro e w' ⟨rfl, hg⟩
      refine ⟨ret_bool ?_, hg⟩
      have : (total D : Int) + ((en : Int) - (flen D nm : Int)) ≤ D.room := by rcases hroom with h1 | h1; omega; omega
      simp only [decide_eq_false_iff_not]
      unfold total at this
      omega
  have Y : ∀ w1, w.grownBy w1 none → Calls Tryz.prog 72 #[.pointer (some ⟨b, 0, none⟩), .string nm, .int .i64 at_, .string s] w1 _ := fun w1 hg => lay_any w1 base b D who (R.keep hg) nm s at_ hs hend F.lens F.chn
  have hne : s.toList.isEmpty = false := by
    have : s.toList.length = s.size := by rw [ByteArray.toList_eq, Array.length_toList]; rfl
    cases h : s.toList with
    | nil => rw [h] at this; simp at this; omega
    | cons a l => rfl
  have HY : Hid (∀ w1, w.grownBy w1 none → Calls Tryz.prog 72 #[.pointer (some ⟨b, 0, none⟩), .string nm, .int .i64 at_, .string s] w1 _) := Y
  have HR : Hid (Rep w base b D who) := R
  clear Y hroom hen0
  go_enter Tryz.func35, Tryz.ntmps35
  go_wp2_with (first
    | (go_at_call 69; refine M.mono ?_; rintro e w0 ⟨rfl, rfl⟩)
    | (go_at_call 71; refine L.mono ?_; rintro e w1 ⟨rfl, hg1⟩)
    | (go_at_call 72; refine (HY.out w1 hg1).mono ?_; rintro e w2 ⟨rfl, hB2, f1, D1, v', cv', who', hE, R2⟩)
    | (go_at_call 70; refine (endStep_rep w2 base b _ who' R2 (by rw [(Entered.facts hE).1]; exact F.f0) (by rw [(Entered.facts hE).1]; exact F.f1) (by rw [(Entered.facts hE).2.1]; exact F.s0) (by rw [(Entered.facts hE).2.1]; exact F.s1)).mono ?_; rintro e w3 ⟨rfl, R3, hB3⟩))
  go_ret
  refine ⟨ret_int (by simp [ans, (Entered.facts hE).1]), ?_, f1, D1, v', cv', who', hE, R3⟩
  exact (((Only.of_grown hg1).below HR.out.base_le (by simp)).trans hB2).trans hB3

theorem write_full (w : World) (base b : Nat) (D : DS) (who : Nat → Nat) (R : Rep w base b D who) (F : Fine D) (hdn : D.down = false) (nm : ByteArray) (s : ByteArray) (at_ : Nat) (hs : 0 < s.size) (hend : at_ + s.size ≤ 1048576)
    (hlong : flen D nm < at_ + s.size) (hroom : D.room < (total D : Int) + ((at_ + s.size : Nat) - (flen D nm : Int))) :
    Calls Tryz.prog 35 #[.pointer (some ⟨b, 0, none⟩), .string nm, .int .i64 at_, .string s] w fun e w' => e = .returned (.int .i64 5) ∧ w.grownBy w' none := by
  have M := misfit_rep w base b D who R hdn at_ s.size hend
  obtain ⟨en, hen0⟩ : ∃ en : Nat, en = at_ + s.size := ⟨_, rfl⟩
  have hen : (at_ : Int) + (s.size : Int) = (en : Int) := by omega
  have L : Calls Tryz.prog 71 #[.pointer (some ⟨b, 0, none⟩), .string nm, .int .i64 en] w fun e w' => e = .returned (.bool true) ∧ w.grownBy w' none := by
    refine (lacks_yes w b D.mb D.cv D.room D.fuse D.steps D.starts D.down D.fs D.clock nm (fun f => f.seen.length) (flen D nm) en R.blk R.map R.born R.nodup R.sizes F.tot rfl (by omega) (by omega)).mono ?_
    rintro e w' ⟨rfl, hg⟩
    refine ⟨ret_bool ?_, hg⟩
    simp only [decide_eq_true_eq]
    unfold total at hroom
    omega
  have hne : s.toList.isEmpty = false := by
    have : s.toList.length = s.size := by rw [ByteArray.toList_eq, Array.length_toList]; rfl
    cases h : s.toList with
    | nil => rw [h] at this; simp at this; omega
    | cons a l => rfl
  clear hroom hlong R hen0
  go_enter Tryz.func35, Tryz.ntmps35
  go_wp2_with (first
    | (go_at_call 69; refine M.mono ?_; rintro e w0 ⟨rfl, rfl⟩)
    | (go_at_call 71; refine L.mono ?_; rintro e w1 ⟨rfl, hg1⟩))
  go_ret
  exact ⟨rfl, hg1⟩

theorem len_up (w : World) (base b : Nat) (D : DS) (who : Nat → Nat) (R : Rep w base b D who) (hdn : D.down = false) (nm : ByteArray) :
    Calls Tryz.prog 120 #[.pointer (some ⟨b, 0, none⟩), .string nm] w fun e w' => e = .returned (.int .i64 (flen D nm)) ∧ w.grownBy w' none := by
  have RF := refusal_some w b D.mb D.cv D.room D.fuse D.steps D.starts false (by have := R.blk; unfold DS.cells at this; rw [hdn] at this; exact this)
  have S := seen_any w b D.mb D.cv D.room D.fuse D.steps D.starts D.down D.fs D.clock nm (fun f => f.seen.length) R.blk R.map R.sizes
  have hfl : ((look D.fs nm).map fun f => f.seen.length).getD 0 = flen D nm := rfl
  rw [hfl] at S
  clear R hfl
  go_enter Tryz.func120, Tryz.ntmps120
  go_wp2_with (first
    | (go_at_call 38; refine RF.mono ?_; rintro e w0 ⟨rfl, rfl⟩)
    | (go_at_call 39; refine S.mono ?_; rintro e w1 ⟨eb, a, c, rfl, hc, hg⟩)
    | (go_at_call 79; refine (size_of w1 eb 0 a _ c hc).mono ?_; rintro e w2 ⟨rfl, rfl⟩))
  go_ret
  exact ⟨rfl, hg⟩

theorem pending_any (w : World) (base b : Nat) (D : DS) (who : Nat → Nat) (R : Rep w base b D who) :
    Calls Tryz.prog 15 #[.pointer (some ⟨b, 0, none⟩)] w fun e w' => e = .returned (.int .i64 D.chs.length) ∧ w = w' := by
  have M := made_some w b D.mb ((R.blk.cell 0).trans (by simp))
  obtain ⟨a, c, h⟩ := ownsRow_form R.ochs
  have h1 : w.cell? ⟨b, 1, none⟩ = some (.slice a D.chs.length c) := by rw [R.blk.cell 1, ← h]; rfl
  clear R h
  go_enter Tryz.func15, Tryz.ntmps15
  go_wp2_with (go_at_call 37; refine M.mono ?_; rintro e w0 ⟨rfl, rfl⟩)
  go_ret
  exact ⟨rfl, rfl⟩

theorem steps_any (w : World) (base b : Nat) (D : DS) (who : Nat → Nat) (R : Rep w base b D who) :
    Calls Tryz.prog 14 #[.pointer (some ⟨b, 0, none⟩)] w fun e w' => e = .returned (.int .i64 D.steps) ∧ w = w' := by
  have M := made_some w b D.mb ((R.blk.cell 0).trans (by simp))
  have h4 := R.blk.cell 4
  simp at h4
  clear R
  go_enter Tryz.func14, Tryz.ntmps14
  go_wp2_with (go_at_call 37; refine M.mono ?_; rintro e w0 ⟨rfl, rfl⟩)
  go_ret
  exact ⟨rfl, rfl⟩

end Go.Proofs.YteocmhbllckpjaaGreat
