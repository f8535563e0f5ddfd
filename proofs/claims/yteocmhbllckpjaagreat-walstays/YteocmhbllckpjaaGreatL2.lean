/- Laying data into a file: what it leaves alone (the ground: an entry, a change noted, a file made longer). -/
import Derived.Test.YteocmhbllckpjaaGreatW6
import Derived.Test.YteocmhbllckpjaaGreatN
namespace Go.Proofs.YteocmhbllckpjaaGreat
open Go.ChangeShapes Go.WideShapes Go.ChangeAt Go.RowKit
open Go.ChangeMaps (setBlock)
set_option linter.unusedVariables false

/-- A disk that has moved on from D in w. -/
structure RM (w : World) (D : DS) (w' : World) (base b : Nat) (D' : DS) (who : Nat → Nat) : Prop where
  rep : Rep w' base b D' who
  mv : Moves b D w D' w'
theorem RM.start {w : World} {base b : Nat} {D : DS} {who : Nat → Nat} (R : Rep w base b D who) : RM w D w base b D who := ⟨R, Moves.refl _ _ _⟩
theorem RM.grown {w w1 w2 : World} {base b : Nat} {D D1 : DS} {who : Nat → Nat} (h : RM w D w1 base b D1 who) (hg : w1.grownBy w2 none) : RM w D w2 base b D1 who := ⟨h.rep.keep hg, h.mv.trans (Moves.grown hg)⟩
theorem RM.trans {w w1 w2 : World} {base b : Nat} {D D1 D2 : DS} {who1 who2 : Nat → Nat} (h : RM w D w1 base b D1 who1) (h2 : RM w1 D1 w2 base b D2 who2) : RM w D w2 base b D2 who2 := ⟨h2.rep, h.mv.trans h2.mv⟩
theorem Moves.setD {w w' : World} {b : Nat} {D D' : DS} (h : Only [b] w w') (h1 : D'.mb = D.mb) (h2 : D'.cv = D.cv) (h3 : D'.fs = D.fs) : Moves b D w D' w' := by
  refine Moves.only h (fun k hk _ => .inl (by simpa using hk)) (fun k hk hF => ?_)
  unfold Foot at hF ⊢
  rw [h1, h2, h3] at hF
  exact hF
theorem note_moves {W4 w5 : World} {base b : Nat} {D : DS} {who : Nat → Nat} (R : Rep W4 base b D who) (hg : W4.grownBy w5 D.cv.ownBlock) (v5 : Value) (chs : List Ch) (ho : w5.ownsRow base 112 67 v5 chs.length (chcells chs)) {q : Nat} (hq1 : v5.ownBlock = some q)
    (hq2 : D.cv.ownBlock = some q ∨ W4.heap.size ≤ q) (hc : ∀ c ∈ chs, c.data.length = 64) :
    Rep (w5.setCell ⟨b, 1, none⟩ v5) base b { D with cv := v5, chs := chs } (fun k => if k = q then 2 else who k) ∧ Moves b D W4 { D with cv := v5, chs := chs } (w5.setCell ⟨b, 1, none⟩ v5) := by
  refine ⟨(note_done R hg v5 chs ho hq1 hq2 hc).1, ?_⟩
  have hO : Only (b :: D.cv.ownBlock.toList) W4 (w5.setCell ⟨b, 1, none⟩ v5) := ((Only.of_grown hg).mono (fun j hj => List.mem_cons_of_mem _ hj)).trans ((Only.setCell _ _ _).mono (by simp))
  refine Moves.only hO (fun k hk _ => ?_) (fun k hk hF => ?_)
  · rcases List.mem_cons.1 hk with rfl | hk
    · exact .inl rfl
    · exact .inr (.inr (.inl (by simpa using hk)))
  · rcases hF with h | h | h | h
    · exact .inl h
    · exact .inr (.inl h)
    · have h' : v5.ownBlock = some k := h
      rw [hq1] at h'
      obtain rfl := Option.some.inj h'
      rcases hq2 with h2 | h2
      · exact .inr (.inr (.inl h2))
      · omega
    · exact .inr (.inr (.inr h))
theorem entry_moves (w : World) (base b : Nat) (D : DS) (who : Nat → Nat) (R : Rep w base b D who) (nm : ByteArray) :
    Calls Tryz.prog 113 #[.pointer (some ⟨b, 0, none⟩), .string nm] w fun e w' => ∃ f D' who', e = .returned (.pointer (some ⟨f.eb, 0, none⟩)) ∧ RM w D w' base b D' who' ∧ look D'.fs nm = some f ∧ Entered D nm f D' := by
  cases hl : look D.fs nm with
  | some f =>
    refine (entry_hit w b D.mb D.cv D.room D.fuse D.steps D.starts D.down D.fs D.clock nm f R.blk R.map hl).mono ?_
    rintro e w' ⟨rfl, rfl⟩
    exact ⟨f, D, who, rfl, RM.start R, hl, .inl ⟨hl, rfl⟩⟩
  | none =>
    refine (entry_new w b D.mb D.cv D.room D.fuse D.steps D.starts D.down D.fs D.clock nm R.blk R.map hl).mono ?_
    rintro e w' ⟨rfl, rfl⟩
    refine ⟨_, _, _, rfl, ⟨R.newF nm, ?_⟩, look_snoc _ _ _ hl (bytes_beq nm), .inr ⟨hl, _, rfl, rfl⟩⟩
    refine Moves.only ((Only.alloc w _ [D.mb]).trans (Only.setBlock _ _ _)) (fun k hk _ => .inr (.inl (by simpa using hk))) (fun k hk hF => ?_)
    rcases hF with h | h | h | ⟨f, hf, h⟩
    · exact .inl h
    · exact .inr (.inl h)
    · exact .inr (.inr (.inl h))
    · rcases List.mem_append.1 hf with hf | hf
      · exact .inr (.inr (.inr ⟨f, hf, h⟩))
      · obtain rfl : f = FL.fresh nm w.heap.size D.clock := by simpa using hf
        rcases h with h | h | h
        · simp [FL.fresh] at h; omega
        · simp [FL.fresh, Value.ownBlock] at h
        · simp [FL.fresh, Value.ownBlock] at h

set_option maxHeartbeats 2000000 in
set_option maxRecDepth 100000 in
theorem resize_moves (w : World) (base b : Nat) (D : DS) (who : Nat → Nat) (R : Rep w base b D who) (nm : ByteArray) (f : FL) (hf : f ∈ D.fs) (hlf : look D.fs nm = some f) (m : Nat) (hm : f.seen.length < m) (hm2 : m ≤ 1048576) (hch : D.chs.length ≤ 1000000000) :
    Calls Tryz.prog 114 #[.pointer (some ⟨b, 0, none⟩), .string nm, .int .i64 m] w fun e w' => e = .returned (.tuple #[]) ∧ ∃ v' cv' who', RM w D w' base b { D with fs := upd D.fs f.born fun x => { x with sv := v', seen := f.seen ++ List.replicate (m - f.seen.length) 0 }, cv := cv', chs := D.chs ++ [⟨nm, -1, m, List.replicate 64 0⟩] } who' := by
  have E := entry_hit w b D.mb D.cv D.room D.fuse D.steps D.starts D.down D.fs D.clock nm f R.blk R.map hlf
  have S := file_resize_more w f.eb 0 #[f.sv, f.kv] 119 base f.sv f.seen m (R.ent f hf) rfl (R.osv f hf) (fun e => by have h1 := R.ws f hf _ e; have h2 := R.we f hf; omega) hm hm2 R.base_le
  go_enter Tryz.func114, Tryz.ntmps114
  have HR : Hid (Rep w base b D who) := R
  clear R
  go_wp2_with (first
    | (go_at_call 113; refine E.mono ?_; rintro e w1 ⟨rfl, rfl⟩)
    | (go_at_call 97; refine S.mono ?_; rintro e w1 ⟨rfl, v', w2, hS1, hS2, hS3, rfl⟩))
  have R := HR.out
  have hbe : b ≠ f.eb := fun e => by have h1 := R.wb; have h2 := R.we f hf; rw [e] at h1; omega
  obtain ⟨g, hvg, hgg⟩ := hS3
  have hne : f.eb ≠ g := fun e => by
    rcases hgg with h | h
    · have h1 := R.ws f hf _ h; have h2 := R.we f hf; rw [e] at h2; omega
    · have := (R.ent f hf).lt; omega
  have hO1 : Only (f.eb :: f.sv.ownBlock.toList) w (w2.setCell ⟨f.eb, 0, none⟩ v') := ((Only.of_grown hS2).mono (fun j hj => List.mem_cons_of_mem _ hj)).trans ((Only.setCell _ _ _).mono (by simp))
  have hB2 : Blk w2 f.eb #[f.sv, f.kv] 119 := (Only.of_grown hS2).blk (R.ent f hf) (fun hm => by have h1 := R.ws f hf f.eb (by simpa using hm); have h2 := R.we f hf; omega)
  have R1 := R.setS hf v' _ hvg hgg hO1 (hB2.set 0 v') (ownsRow_only hS1 (Only.setCell w2 ⟨f.eb, 0, none⟩ v') (fun k hk => by rw [hvg] at hk; have e := Option.some.inj hk; simp; omega))
  have hcell1 : (w2.setCell ⟨f.eb, 0, none⟩ v').cell? ⟨f.eb, 0, none⟩ = some v' := ((hB2.set 0 v').cell 0).trans (by simp)
  have hmv1 : Moves b D w { D with fs := upd D.fs f.born fun f_1 => { f_1 with sv := v', seen := f.seen ++ List.replicate (m - f.seen.length) 0 } } (w2.setCell ⟨f.eb, 0, none⟩ v') := Moves.seenD hf (fun k hk => by rw [hvg] at hk; obtain rfl := Option.some.inj hk; exact hgg) hO1
  obtain ⟨a1, c1, hv'⟩ := ownsRow_form hS1
  go_name_world W1 hW1
  rw [hW1] at R1 hcell1 hmv1
  have hlen : (f.seen ++ List.replicate (m - f.seen.length) 0).length = m := by simp; omega
  rw [hv', hlen] at hcell1
  clear hW1 hS1 hS2 hO1 hB2 S E hgg hlen hv' hne hvg
  generalize hD1 : ({ D with fs := upd D.fs f.born fun f_1 => { f_1 with sv := v', seen := f.seen ++ List.replicate (m - f.seen.length) 0 } } : DS) = D1 at R1 hmv1
  have hD1c : D1.cv = D.cv ∧ D1.chs = D.chs := by rw [← hD1]; exact ⟨rfl, rfl⟩
  have HD : Hid (({ D with fs := upd D.fs f.born fun f_1 => { f_1 with sv := v', seen := f.seen ++ List.replicate (m - f.seen.length) 0 } } : DS) = D1) := hD1
  have HR1 : Hid (Rep W1 base b D1 (fun k => if k = g then 4 + 3 * f.born else who k)) := R1
  obtain ⟨ca, cc, hcv⟩ := ownsRow_form R1.ochs
  have hcvc : W1.cell? ⟨b, 1, none⟩ = some (.slice ca D1.chs.length cc) := by rw [R1.blk.cell 1, ← hcv]; rfl
  have HCV : Hid (D1.cv = .slice ca D1.chs.length cc) := hcv
  obtain ⟨X, hX⟩ : ∃ X : Array Value, X = (chg nm (-1) m (List.replicate 64 0)).toArray := ⟨_, rfl⟩
  have HX : Hid (X = (chg nm (-1) m (List.replicate 64 0)).toArray) := hX
  have hXs : X.size = 67 := by rw [hX, List.size_toArray, length_chg]; rfl
  have C51 := changer_nice W1.drew f.eb 0 nm
  have HC59 : Hid (∀ w3 nb sb, W1.drew.grownBy w3 none → w3.cell? ⟨nb, 0, none⟩ = some (.string nm) → w3.cell? ⟨sb, 0, none⟩ = some (.pointer (some ⟨f.eb, 0, none⟩)) →
      Calls Tryz.prog 135 #[.int .i64 (-1), .pointer (some ⟨nb, 0, none⟩), .pointer (some ⟨sb, 0, none⟩)] w3 fun e w' => e = .returned (.agg X) ∧ w3.grownBy w' none) := fun w3 nb sb hg3 h1 h2 => by
    rw [hX]; exact change_size w3 nb sb f.eb 0 nm a1 m c1 h1 h2 (hg3.cell (w := W1.drew) hcell1 (by simp))
  have HCC : Hid (∀ w3, W1.drew.grownBy w3 none → w3.cell? ⟨b, 1, none⟩ = some (.slice ca D1.chs.length cc)) := fun w3 hg3 => hg3.cell (w := W1.drew) hcvc (by simp)
  have hfold : ∀ Z : Array Value, Z.size = 67 → Array.foldl (fun cs x => cs.setIfInBounds x.snd x.fst) Z X.zipIdx 0 67 = X := fun Z hZ => fold_all X Z hXs hZ
  have HAP : Hid (∀ w4, W1.drew.grownBy w4 none → ∃ v' w', (Builtin.append_ #[74, 74] 74 #[.slice ca D1.chs.length cc, .slice (some ⟨w4.heap.size, 0, none⟩) 1 1]).run Tryz.prog (w4.alloc (.cells X 112)) = .ok v' w' ∧
      (w'.ownsRow base 112 67 v' (D1.chs ++ [Ch.mk nm (-1) m (List.replicate 64 0)]).length (chcells (D1.chs ++ [Ch.mk nm (-1) m (List.replicate 64 0)])) ∧ (w4.alloc (.cells X 112)).grownBy w' (Value.slice ca D1.chs.length cc).ownBlock ∧
      ∃ q, v'.ownBlock = some q ∧ ((Value.slice ca D1.chs.length cc).ownBlock = some q ∨ (w4.alloc (.cells X 112)).heap.size ≤ q))) := fun w4 hg4 => by
    have R4 := (R1.drew.keep hg4).keep (World.grownBy_alloc w4 (.cells X 112) none)
    rw [← hcv]
    exact app_change _ base D1.cv D1.chs ⟨nm, -1, m, List.replicate 64 0⟩ (by simp) R4.ochs w4.heap.size ((alloc_new _ _).trans (by rw [hX]; rfl)) (by rw [hD1c.2]; exact hch) R4.base_le
  have HB : Hid (∀ w4 w5, W1.drew.grownBy w4 none → (w4.alloc (.cells X 112)).grownBy w5 (Value.slice ca D1.chs.length cc).ownBlock → Blk w5 b D1.cells 76) := fun w4 w5 hg4 hg5 => by
    have R4 := (R1.drew.keep hg4).keep (World.grownBy_alloc w4 (.cells X 112) none)
    rw [← hcv] at hg5
    exact (hg5.block b R4.blk.lt (fun e => by have h1 := R4.wc b e.symm; have h2 := R4.wb; omega)).trans R4.blk
  have HD1 : Hid (D1.cv = D.cv ∧ D1.chs = D.chs) := hD1c
  have HM1 : Hid (Moves b D w D1 W1) := hmv1
  clear R R1 hD1 hcv hX hD1c hmv1
  go_region_law (first
    | (refine step_append_run rfl (.tmp 20) (.tmp 27) 74 74 rfl (.slice ca D1.chs.length cc) (.slice (some ⟨w4.heap.size, 0, none⟩) 1 1) (by simp [Act.eval]) (by simp [Act.eval]) _ _ (fun v w h => ownsRow_form h.1) (HAP.out w4 hg4') ?_; intro a5 c5 w5 hR5; have hB5 := (HB.out w4 w5 hg4' hR5.2.1).cell 1; have hF5 := (HB.out w4 w5 hg4' hR5.2.1).frozen 1; simp at hB5)
    | (go_simp; go_at_call 115; refine C51.mono ?_; rintro e w3 ⟨nb, sb, rfl, hn3, hs3, hg3, _, _⟩; have hc3 := HCC.out w3 hg3; simp only [])
    | (go_simp; go_at_call 135; refine (HC59.out w3 nb sb hg3 hn3 hs3).mono ?_; rintro e w4 ⟨rfl, hg4⟩; have hg4' := grown_trans' hg3 hg4; have hc4 := HCC.out w4 hg4'; have hc4x := HCC.out (w4.alloc (.cells X 112)) (grown_trans' hg4' (World.grownBy_alloc _ _ _)); simp only []))
  all_goals
    go_end0
    refine ⟨rfl, v', .slice a5 (D1.chs ++ [Ch.mk nm (-1) m (List.replicate 64 0)]).length c5, ?_⟩
    have R4 := (HR1.out.drew.keep hg4').keep (World.grownBy_alloc w4 (.cells X 112) none)
    have hcv' := HCV.out
    obtain ⟨hR51, hR52, q, hq1, hq2⟩ := hR5
    rw [← hcv'] at hR52 hq2
    obtain ⟨N1, N2⟩ := note_moves R4 hR52 _ _ hR51 hq1 hq2 (fun c hc => by
      rcases List.mem_append.1 hc with h | h
      · exact R4.c64 c h
      · obtain rfl : c = Ch.mk nm (-1) m (List.replicate 64 0) := by simpa using h
        simp)
    have hg14 : W1.grownBy (w4.alloc (.cells X 112)) none := grown_trans' (a := W1) ⟨hg4'.os, hg4'.tape, hg4'.output, hg4'.size, hg4'.block⟩ (World.grownBy_alloc _ _ _)
    have hM := (HM1.out.trans (Moves.grown hg14)).trans N2
    have hD := HD.out
    subst hD
    exact ⟨_, by simpa using N1, by simpa using hM⟩
end Go.Proofs.YteocmhbllckpjaaGreat
