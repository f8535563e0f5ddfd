/- A change of a file's number of bytes, made and noted. -/
import Derived.Test.YteocmhbllckpjaaGreatK
namespace Go.Proofs.YteocmhbllckpjaaGreat
open Go.ChangeShapes Go.WideShapes Go.ChangeAt Go.RowKit
open Go.ChangeMaps (setBlock)
set_option linter.unusedVariables false

theorem chcells_snoc (l : List Ch) (c : Ch) : chcells (l ++ [c]) = chcells l ++ c.cells := by simp [chcells]
theorem length_cells (c : Ch) (h : c.data.length = 64) : c.cells.length = 67 := by rw [Ch.cells, length_chg, h]

/-- append(changes, c), c in a new row of its own. -/
theorem app_change (w : World) (base : Nat) (v : Value) (chs : List Ch) (c : Ch) (h64 : c.data.length = 64) (hown : w.ownsRow base 112 67 v chs.length (chcells chs)) (g : Nat) (hg : w.heap[g]? = some (.cells c.cells.toArray 112 (0, 0)))
    (hn : chs.length ≤ 1000000000) (hbase : base ≤ w.heap.size) :
    ∃ v' w', (Builtin.append_ #[74, 74] 74 #[v, .slice (some ⟨g, 0, none⟩) 1 1]).run Tryz.prog w = .ok v' w' ∧ w'.ownsRow base 112 67 v' (chs ++ [c]).length (chcells (chs ++ [c])) ∧ w.grownBy w' v.ownBlock ∧
      ∃ q, v'.ownBlock = some q ∧ (v.ownBlock = some q ∨ w.heap.size ≤ q) := by
  obtain ⟨i, hi, hz, hsize, hby⟩ := info75
  obtain ⟨v', w', h1, h2, h3, h4⟩ := app_own (P := Tryz.prog) w base 74 74 112 i _ 67 96 Tryz.underlying74 hi hz hsize hby (by simp [Value.cells, length_chg]) (by omega) v chs.length (chcells chs) hown ⟨g, 0, none⟩ 1 1 (by omega) c.cells (by rw [length_cells c h64])
    (fun j u hj => by rw [Addr.add_lit, cell_of_row w g _ _ _ _ hg]; simpa using hj) (one_chg _ _ _ _) (by simp only [maxLen]; omega) (by omega) hbase
  exact ⟨v', w', h1, by simpa [chcells_snoc] using h2, h3, h4⟩

theorem grown_trans' {a b c : World} (h : a.grownBy b none) (k : b.grownBy c none) : a.grownBy c none :=
  ⟨k.os.trans h.os, k.tape.trans h.tape, k.output.trans h.output, Nat.le_trans h.size k.size, fun i hi _ => (k.block i (Nat.lt_of_lt_of_le hi h.size) (by simp)).trans (h.block i hi (by simp))⟩

theorem fold_all (X Z : Array Value) (hX : X.size = 67) (hZ : Z.size = 67) : Array.foldl (fun cs x => cs.setIfInBounds x.snd x.fst) Z X.zipIdx 0 67 = X := by
  have h := fold_set X Z 0 67 hX.symm (by omega)
  simp only [Nat.zero_add] at h
  rw [h]
  unfold splice
  rw [List.drop_of_length_le (by simp; omega)]
  simp

theorem changer_nice (w : World) (b o : Nat) (nm : ByteArray) :
    Calls Tryz.prog 115 #[.pointer (some ⟨b, o, none⟩), .string nm] w fun e w' => ∃ nb sb, e = .returned (.func (.func 135) #[] #[.pointer (some ⟨nb, 0, none⟩), .pointer (some ⟨sb, 0, none⟩)]) ∧
      w'.cell? ⟨nb, 0, none⟩ = some (.string nm) ∧ w'.cell? ⟨sb, 0, none⟩ = some (.pointer (some ⟨b, o, none⟩)) ∧ w.grownBy w' none ∧ w.heap.size ≤ nb ∧ w.heap.size ≤ sb := by
  refine (changer_any w b o nm).mono ?_
  rintro e w' ⟨rfl, rfl⟩
  obtain ⟨h1, h2, h3, h4⟩ := two_alloc w (.cells #[.pointer (some ⟨b, o, none⟩)] 86) (.cells #[.string nm] 9)
  exact ⟨_, _, rfl, by rw [cell_of_row _ _ _ _ _ _ h4]; rfl, by rw [cell_of_row _ _ _ _ _ _ h3]; rfl, h1, by omega, by omega⟩

/-- The changes' slice, appended to, is stored back. -/
theorem note_done {W4 w5 : World} {base b : Nat} {D : DS} {who : Nat → Nat} (R : Rep W4 base b D who) (hg : W4.grownBy w5 D.cv.ownBlock) (v5 : Value) (chs : List Ch) (ho : w5.ownsRow base 112 67 v5 chs.length (chcells chs)) {q : Nat} (hq1 : v5.ownBlock = some q)
    (hq2 : D.cv.ownBlock = some q ∨ W4.heap.size ≤ q) (hc : ∀ c ∈ chs, c.data.length = 64) :
    Rep (w5.setCell ⟨b, 1, none⟩ v5) base b { D with cv := v5, chs := chs } (fun k => if k = q then 2 else who k) ∧ Below base W4 (w5.setCell ⟨b, 1, none⟩ v5) := by
  have hO : Only (b :: D.cv.ownBlock.toList) W4 (w5.setCell ⟨b, 1, none⟩ v5) := ((Only.of_grown hg).mono (fun j hj => List.mem_cons_of_mem _ hj)).trans ((Only.setCell _ _ _).mono (by simp))
  have hbq : b ≠ q := fun e => by
    rcases hq2 with h | h
    · have h1 := R.wc q h; have h2 := R.wb; rw [e] at h2; omega
    · have := R.blk.lt; omega
  have hB5 : Blk w5 b D.cells 76 := (Only.of_grown hg).blk R.blk (fun hm => by have h1 := R.wc b (by simpa using hm); have h2 := R.wb; omega)
  refine ⟨R.setC hq2 hO v5 hq1 chs (hB5.set 1 v5) (ownsRow_only ho (Only.setCell w5 ⟨b, 1, none⟩ v5) (fun k hk => by rw [hq1] at hk; have e := Option.some.inj hk; simp; omega)) hc, ?_⟩
  exact hO.below R.base_le (fun j hj => by
    rcases List.mem_cons.1 hj with rfl | hj
    · exact R.lowb
    · exact (own_lt R.ochs j (by simpa using hj)).1)

theorem entry_rep (w : World) (base b : Nat) (D : DS) (who : Nat → Nat) (R : Rep w base b D who) (nm : ByteArray) :
    Calls Tryz.prog 113 #[.pointer (some ⟨b, 0, none⟩), .string nm] w fun e w' => ∃ f D' who', e = .returned (.pointer (some ⟨f.eb, 0, none⟩)) ∧ Rep w' base b D' who' ∧ look D'.fs nm = some f ∧ Below base w w' ∧
      ((look D.fs nm = some f ∧ D' = D) ∨ (look D.fs nm = none ∧ ∃ eb, f = FL.fresh nm eb D.clock ∧ D' = { D with fs := D.fs ++ [FL.fresh nm eb D.clock], clock := D.clock + 1 })) := by
  cases hl : look D.fs nm with
  | some f =>
    refine (entry_hit w b D.mb D.cv D.room D.fuse D.steps D.starts D.down D.fs D.clock nm f R.blk R.map hl).mono ?_
    rintro e w' ⟨rfl, rfl⟩
    exact ⟨f, D, who, rfl, R, hl, Below.refl _ _, .inl ⟨rfl, rfl⟩⟩
  | none =>
    refine (entry_new w b D.mb D.cv D.room D.fuse D.steps D.starts D.down D.fs D.clock nm R.blk R.map hl).mono ?_
    rintro e w' ⟨rfl, rfl⟩
    refine ⟨_, _, _, rfl, R.newF nm, look_snoc _ _ _ hl (bytes_beq nm), ?_, .inr ⟨rfl, _, rfl, rfl⟩⟩
    exact ((Only.alloc w _ [D.mb]).trans (Only.setBlock _ _ _)).below R.base_le (by simp; exact R.lowm)

set_option maxHeartbeats 2000000 in
set_option maxRecDepth 100000 in
theorem resize_note (w : World) (base b : Nat) (D : DS) (who : Nat → Nat) (R : Rep w base b D who) (nm : ByteArray) (f : FL) (hf : f ∈ D.fs) (hlf : look D.fs nm = some f) (m : Nat) (hm : f.seen.length < m) (hm2 : m ≤ 1048576) (hch : D.chs.length ≤ 1000000000) :
    Calls Tryz.prog 114 #[.pointer (some ⟨b, 0, none⟩), .string nm, .int .i64 m] w fun e w' => e = .returned (.tuple #[]) ∧ ∃ v' cv' who', Below base w w' ∧
      Rep w' base b { D with fs := upd D.fs f.born fun x => { x with sv := v', seen := f.seen ++ List.replicate (m - f.seen.length) 0 }, cv := cv', chs := D.chs ++ [⟨nm, -1, m, List.replicate 64 0⟩] } who' := by
  have E := entry_hit w b D.mb D.cv D.room D.fuse D.steps D.starts D.down D.fs D.clock nm f R.blk R.map hlf
  have S := file_resize_more w f.eb 0 #[f.sv, f.kv] 119 base f.sv f.seen m (R.ent f hf) rfl (R.osv f hf) (fun e => by have h1 := R.ws f hf _ e; have h2 := R.we f hf; omega) hm hm2 R.base_le
  go_enter Tryz.func114, Tryz.ntmps114
  have HR : Hid (Rep w base b D who) := R
  clear R
  go_wp2_with (first
    | (go_at_call 113; refine E.mono ?_; rintro e w1 ⟨rfl, rfl⟩)
    | (go_at_call 97; refine S.mono ?_; rintro e w1 ⟨rfl, v', w2, hS1, hS2, hS3, rfl⟩))
  have R := HR.out
  have hbe : b ≠ f.eb := fun e => by have h1 := R.wb; have h2 := R.we f hf; rw [e] at h1; omega
  obtain ⟨g, hvg, hgg⟩ := hS3
  have hne : f.eb ≠ g := fun e => by
    rcases hgg with h | h
    · have h1 := R.ws f hf _ h; have h2 := R.we f hf; rw [e] at h2; omega
    · have := (R.ent f hf).lt; omega
  have hO1 : Only (f.eb :: f.sv.ownBlock.toList) w (w2.setCell ⟨f.eb, 0, none⟩ v') := ((Only.of_grown hS2).mono (fun j hj => List.mem_cons_of_mem _ hj)).trans ((Only.setCell _ _ _).mono (by simp))
  have hB2 : Blk w2 f.eb #[f.sv, f.kv] 119 := (Only.of_grown hS2).blk (R.ent f hf) (fun hm => by have h1 := R.ws f hf f.eb (by simpa using hm); have h2 := R.we f hf; omega)
  have R1 := R.setS hf v' _ hvg hgg hO1 (hB2.set 0 v') (ownsRow_only hS1 (Only.setCell w2 ⟨f.eb, 0, none⟩ v') (fun k hk => by rw [hvg] at hk; have e := Option.some.inj hk; simp; omega))
  have hcell1 : (w2.setCell ⟨f.eb, 0, none⟩ v').cell? ⟨f.eb, 0, none⟩ = some v' := ((hB2.set 0 v').cell 0).trans (by simp)
  have hbel1 : Below base w (w2.setCell ⟨f.eb, 0, none⟩ v') := hO1.below R.base_le (fun j hj => by
    rcases List.mem_cons.1 hj with rfl | hj
    · exact R.lowe f hf
    · exact (own_lt (R.osv f hf) j (by simpa using hj)).1)
  obtain ⟨a1, c1, hv'⟩ := ownsRow_form hS1
  go_name_world W1 hW1
  rw [hW1] at R1 hcell1 hbel1
  have hlen : (f.seen ++ List.replicate (m - f.seen.length) 0).length = m := by simp; omega
  rw [hv', hlen] at hcell1
  clear hW1 hS1 hS2 hO1 hB2 S E hgg hlen hv' hne hvg
  generalize hD1 : ({ D with fs := upd D.fs f.born fun f_1 => { f_1 with sv := v', seen := f.seen ++ List.replicate (m - f.seen.length) 0 } } : DS) = D1 at R1
  have hD1c : D1.cv = D.cv ∧ D1.chs = D.chs := by rw [← hD1]; exact ⟨rfl, rfl⟩
  have HD : Hid (({ D with fs := upd D.fs f.born fun f_1 => { f_1 with sv := v', seen := f.seen ++ List.replicate (m - f.seen.length) 0 } } : DS) = D1) := hD1
  have HR1 : Hid (Rep W1 base b D1 (fun k => if k = g then 4 + 3 * f.born else who k)) := R1
  obtain ⟨ca, cc, hcv⟩ := ownsRow_form R1.ochs
  have hcvc : W1.cell? ⟨b, 1, none⟩ = some (.slice ca D1.chs.length cc) := by rw [R1.blk.cell 1, ← hcv]; rfl
  have HCV : Hid (D1.cv = .slice ca D1.chs.length cc) := hcv
  obtain ⟨X, hX⟩ : ∃ X : Array Value, X = (chg nm (-1) m (List.replicate 64 0)).toArray := ⟨_, rfl⟩
  have HX : Hid (X = (chg nm (-1) m (List.replicate 64 0)).toArray) := hX
  have hXs : X.size = 67 := by rw [hX, List.size_toArray, length_chg]; rfl
  have C51 := changer_nice W1.drew f.eb 0 nm
  have HC59 : Hid (∀ w3 nb sb, W1.drew.grownBy w3 none → w3.cell? ⟨nb, 0, none⟩ = some (.string nm) → w3.cell? ⟨sb, 0, none⟩ = some (.pointer (some ⟨f.eb, 0, none⟩)) →
      Calls Tryz.prog 135 #[.int .i64 (-1), .pointer (some ⟨nb, 0, none⟩), .pointer (some ⟨sb, 0, none⟩)] w3 fun e w' => e = .returned (.agg X) ∧ w3.grownBy w' none) := fun w3 nb sb hg3 h1 h2 => by
    rw [hX]; exact change_size w3 nb sb f.eb 0 nm a1 m c1 h1 h2 (hg3.cell (w := W1.drew) hcell1 (by simp))
  have HCC : Hid (∀ w3, W1.drew.grownBy w3 none → w3.cell? ⟨b, 1, none⟩ = some (.slice ca D1.chs.length cc)) := fun w3 hg3 => hg3.cell (w := W1.drew) hcvc (by simp)
  have hfold : ∀ Z : Array Value, Z.size = 67 → Array.foldl (fun cs x => cs.setIfInBounds x.snd x.fst) Z X.zipIdx 0 67 = X := fun Z hZ => fold_all X Z hXs hZ
  have HAP : Hid (∀ w4, W1.drew.grownBy w4 none → ∃ v' w', (Builtin.append_ #[74, 74] 74 #[.slice ca D1.chs.length cc, .slice (some ⟨w4.heap.size, 0, none⟩) 1 1]).run Tryz.prog (w4.alloc (.cells X 112)) = .ok v' w' ∧
      (w'.ownsRow base 112 67 v' (D1.chs ++ [Ch.mk nm (-1) m (List.replicate 64 0)]).length (chcells (D1.chs ++ [Ch.mk nm (-1) m (List.replicate 64 0)])) ∧ (w4.alloc (.cells X 112)).grownBy w' (Value.slice ca D1.chs.length cc).ownBlock ∧
      ∃ q, v'.ownBlock = some q ∧ ((Value.slice ca D1.chs.length cc).ownBlock = some q ∨ (w4.alloc (.cells X 112)).heap.size ≤ q))) := fun w4 hg4 => by
    have R4 := (R1.drew.keep hg4).keep (World.grownBy_alloc w4 (.cells X 112) none)
    rw [← hcv]
    exact app_change _ base D1.cv D1.chs ⟨nm, -1, m, List.replicate 64 0⟩ (by simp) R4.ochs w4.heap.size ((alloc_new _ _).trans (by rw [hX]; rfl)) (by rw [hD1c.2]; exact hch) R4.base_le
  have HB : Hid (∀ w4 w5, W1.drew.grownBy w4 none → (w4.alloc (.cells X 112)).grownBy w5 (Value.slice ca D1.chs.length cc).ownBlock → Blk w5 b D1.cells 76) := fun w4 w5 hg4 hg5 => by
    have R4 := (R1.drew.keep hg4).keep (World.grownBy_alloc w4 (.cells X 112) none)
    rw [← hcv] at hg5
    exact (hg5.block b R4.blk.lt (fun e => by have h1 := R4.wc b e.symm; have h2 := R4.wb; omega)).trans R4.blk
  have HD1 : Hid (D1.cv = D.cv ∧ D1.chs = D.chs) := hD1c
  clear R R1 hD1 hcv hX hD1c
  go_region_law (first
    | (refine step_append_run rfl (.tmp 20) (.tmp 27) 74 74 rfl (.slice ca D1.chs.length cc) (.slice (some ⟨w4.heap.size, 0, none⟩) 1 1) (by simp [Act.eval]) (by simp [Act.eval]) _ _ (fun v w h => ownsRow_form h.1) (HAP.out w4 hg4') ?_; intro a5 c5 w5 hR5; have hB5 := (HB.out w4 w5 hg4' hR5.2.1).cell 1; have hF5 := (HB.out w4 w5 hg4' hR5.2.1).frozen 1; simp at hB5)
    | (go_simp; go_at_call 115; refine C51.mono ?_; rintro e w3 ⟨nb, sb, rfl, hn3, hs3, hg3, _, _⟩; have hc3 := HCC.out w3 hg3; simp only [])
    | (go_simp; go_at_call 135; refine (HC59.out w3 nb sb hg3 hn3 hs3).mono ?_; rintro e w4 ⟨rfl, hg4⟩; have hg4' := grown_trans' hg3 hg4; have hc4 := HCC.out w4 hg4'; have hc4x := HCC.out (w4.alloc (.cells X 112)) (grown_trans' hg4' (World.grownBy_alloc _ _ _)); simp only []))
  all_goals
    go_end0
    refine ⟨rfl, v', .slice a5 (D1.chs ++ [Ch.mk nm (-1) m (List.replicate 64 0)]).length c5, ?_⟩
    have R4 := (HR1.out.drew.keep hg4').keep (World.grownBy_alloc w4 (.cells X 112) none)
    have hcv' := HCV.out
    obtain ⟨hR51, hR52, q, hq1, hq2⟩ := hR5
    rw [← hcv'] at hR52 hq2
    obtain ⟨N1, N2⟩ := note_done R4 hR52 _ _ hR51 hq1 hq2 (fun c hc => by
      rcases List.mem_append.1 hc with h | h
      · exact R4.c64 c h
      · obtain rfl : c = Ch.mk nm (-1) m (List.replicate 64 0) := by simpa using h
        simp)
    have hD := HD.out
    subst hD
    refine ⟨_, ?_, by simpa using N1⟩
    have hb4 : Below base W1 (w4.alloc (.cells X 112)) := ⟨hg4'.os, hg4'.tape, hg4'.output, Nat.le_trans hg4'.size (by simp), fun k hk => by
      have hk1 : k < W1.heap.size := by have := HR1.out.base_le; omega
      have hk4 : k < w4.heap.size := Nat.lt_of_lt_of_le hk1 hg4'.size
      rw [Below.heap_alloc _ _ _ hk4]; exact hg4'.block k hk1 (by simp)⟩
    have := (hbel1.trans hb4).trans N2
    simpa using this
end Go.Proofs.YteocmhbllckpjaaGreat
