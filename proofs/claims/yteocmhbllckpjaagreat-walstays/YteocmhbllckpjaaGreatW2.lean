/- A file is given another number of bytes. -/
/- Truncate on a disk that is up. -/
import Derived.Test.YteocmhbllckpjaaGreatV11
import Derived.Test.YteocmhbllckpjaaGreatN
import Derived.Test.YteocmhbllckpjaaGreatV8
namespace Go.Proofs.YteocmhbllckpjaaGreat
open Go.ChangeShapes Go.WideShapes Go.ChangeAt Go.RowKit
open Go.ChangeMaps (setBlock)
set_option linter.unusedVariables false

theorem length_rsz2 (l : List UInt8) (n : Nat) : (rsz l n).length = n := by
  unfold rsz
  split
  · rw [List.length_take]; omega
  · rw [List.length_append, List.length_replicate]; omega
theorem sx {D Dx : DS} {nm : ByteArray} {f : FL} (hE : (look D.fs nm = some f ∧ Dx = D) ∨ (look D.fs nm = none ∧ ∃ eb, f = FL.fresh nm eb D.clock ∧ Dx = { D with fs := D.fs ++ [FL.fresh nm eb D.clock], clock := D.clock + 1 })) (h : ∀ f ∈ D.fs, f.seen.length ≤ 1048576) : f.seen.length ≤ 1048576 := by
  rcases hE with ⟨h1, _⟩ | ⟨_, eb, rfl, _⟩
  · exact h f (List.mem_of_find?_eq_some h1)
  · simp [FL.fresh]
theorem sresize (w : World) (base b : Nat) (D : DS) (who : Nat → Nat) (R : Rep w base b D who) (f : FL) (hf : f ∈ D.fs) (n : Nat) (hn : n ≤ 1048576) (hl : f.seen.length ≤ 1048576) :
    Calls Tryz.prog 97 #[.pointer (some ⟨f.eb, 0, none⟩), .int .i64 n] w fun e w' => e = .returned (.tuple #[]) ∧ Only (f.eb :: f.sv.ownBlock.toList) w w' ∧
      ∃ v' who', Rep w' base b { D with fs := upd D.fs f.born fun x => { x with sv := v', seen := rsz f.seen n } } who' := by
  have hek : ∀ g, f.sv.ownBlock = some g → g ≠ f.eb := fun g hg e => by have h1 := R.ws f hf _ hg; have h2 := R.we f hf; rw [e] at h1; omega
  by_cases h : n ≤ f.seen.length
  · refine (file_resize_less w f.eb 0 #[f.sv, f.kv] 119 base f.sv f.seen n (R.ent f hf) rfl (R.osv f hf) h hl).mono ?_
    rintro e w' ⟨rfl, v', ho, hv, rfl⟩
    have hO : Only (f.eb :: f.sv.ownBlock.toList) w (w.setCell ⟨f.eb, 0, none⟩ v') := (Only.setCell w ⟨f.eb, 0, none⟩ v').mono (by simp)
    have R' := R.setS2 hf v' (rsz f.seen n) (fun g hg => .inl (hv g hg)) hO ((R.ent f hf).set 0 v') (by
      unfold rsz
      rw [if_pos h]
      exact ownsRow_only ho (Only.setCell w ⟨f.eb, 0, none⟩ v') (fun k hk => by have := hek k (hv k hk); simp; exact this))
    exact ⟨rfl, hO, v', _, R'⟩
  · refine (file_resize_more w f.eb 0 #[f.sv, f.kv] 119 base f.sv f.seen n (R.ent f hf) rfl (R.osv f hf) (fun e => hek _ e rfl) (by omega) hn R.base_le).mono ?_
    rintro e w' ⟨rfl, v', w2, hS1, hS2, ⟨g, hvg, hgg⟩, rfl⟩
    have hne : f.eb ≠ g := fun e => by
      rcases hgg with h | h
      · exact hek _ h e.symm
      · have := (R.ent f hf).lt; omega
    have hO1 : Only (f.eb :: f.sv.ownBlock.toList) w (w2.setCell ⟨f.eb, 0, none⟩ v') := ((Only.of_grown hS2).mono (fun j hj => List.mem_cons_of_mem _ hj)).trans ((Only.setCell _ _ _).mono (by simp))
    have hB2 : Blk w2 f.eb #[f.sv, f.kv] 119 := (Only.of_grown hS2).blk (R.ent f hf) (fun hm => hek f.eb (by simpa using hm) rfl)
    have R1 := R.setS2 hf v' (rsz f.seen n) (fun k hk => by rw [hvg] at hk; cases hk; exact hgg) hO1 (hB2.set 0 v') (by
      unfold rsz
      rw [if_neg h]
      exact ownsRow_only hS1 (Only.setCell w2 ⟨f.eb, 0, none⟩ v') (fun k hk => by rw [hvg] at hk; cases hk; simp; omega))
    exact ⟨rfl, hO1, v', _, R1⟩


set_option maxHeartbeats 2000000 in
set_option maxRecDepth 100000 in
theorem resize_any (w : World) (base b : Nat) (D : DS) (who : Nat → Nat) (R : Rep w base b D who) (nm : ByteArray) (m : Nat) (hm2 : m ≤ 1048576) (hlens : ∀ f ∈ D.fs, f.seen.length ≤ 1048576) (hch : D.chs.length ≤ 1000000000) :
    Calls Tryz.prog 114 #[.pointer (some ⟨b, 0, none⟩), .string nm, .int .i64 m] w fun e w' => e = .returned (.tuple #[]) ∧ Below base w w' ∧ ∃ f1 Dx v' cv' who', Entered D nm f1 Dx ∧
      Rep w' base b { Dx with fs := upd Dx.fs f1.born fun x => { x with sv := v', seen := rsz f1.seen m }, cv := cv', chs := Dx.chs ++ [⟨nm, -1, m, List.replicate 64 0⟩] } who' := by
  have E := entry_rep w base b D who R nm
  have HBs := hide R.base_le
  have HLn := hide hlens
  clear R hlens
  go_enter Tryz.func114, Tryz.ntmps114
  go_wp2_with (first
    | (go_at_call 113; refine E.mono ?_; rintro e w1 ⟨f, Dx, whox, rfl, hRx, hlx, hbx, hEx⟩; have HRx := hide hRx; have HLx := hide hlx; have Hbx := hide hbx; have HEx := hide hEx; clear hRx hlx hbx hEx)
    | (go_at_call 97; refine (sresize w1 base b Dx whox HRx.out f (List.mem_of_find?_eq_some HLx.out) m hm2 (sx HEx.out HLn.out)).mono ?_; rintro e W1 ⟨rfl, hO1, v', who1, hR1⟩))
  have hf : f ∈ Dx.fs := List.mem_of_find?_eq_some HLx.out
  have hE : Entered D nm f Dx := HEx.out
  have hbel1 : Below base w W1 := Hbx.out.trans (hO1.below HRx.out.base_le (fun j hj => by
    rcases List.mem_cons.1 hj with rfl | hj
    · exact HRx.out.lowe f hf
    · exact (own_lt (HRx.out.osv f hf) j (by simpa using hj)).1))
  have hmem : ({ f with sv := v', seen := rsz f.seen m } : FL) ∈ (upd Dx.fs f.born fun x => { x with sv := v', seen := rsz f.seen m }) := mem_upd_self hf (fun x => { x with sv := v', seen := rsz f.seen m })
  have hown : Own W1 base v' (rsz f.seen m) := hR1.osv _ hmem
  obtain ⟨a1, c1, hv'⟩ := ownsRow_form hown
  have hcell1 : W1.cell? ⟨f.eb, 0, none⟩ = some (.slice a1 m c1) := by
    have h1 := (hR1.ent _ hmem).cell 0
    rw [hv', length_rsz2] at h1
    exact h1
  generalize hD1 : ({ Dx with fs := upd Dx.fs f.born fun x => { x with sv := v', seen := rsz f.seen m } } : DS) = D1 at hR1
  have hD1c : D1.cv = Dx.cv ∧ D1.chs = Dx.chs := by rw [← hD1]; exact ⟨rfl, rfl⟩
  have hchx : D1.chs.length ≤ 1000000000 := by
    rw [hD1c.2]
    rcases hE with ⟨_, rfl⟩ | ⟨_, eb, _, rfl⟩
    · exact hch
    · exact hch
  have HD : Hid (({ Dx with fs := upd Dx.fs f.born fun x => { x with sv := v', seen := rsz f.seen m } } : DS) = D1) := hD1
  have R1 := hR1
  have HR1 : Hid (Rep W1 base b D1 who1) := hR1
  have HE := hide hE
  clear hR1 hmem hown hE hf hO1 hv'
  obtain ⟨ca, cc, hcv⟩ := ownsRow_form R1.ochs
  have hcvc : W1.cell? ⟨b, 1, none⟩ = some (.slice ca D1.chs.length cc) := by rw [R1.blk.cell 1, ← hcv]; rfl
  have HCV : Hid (D1.cv = .slice ca D1.chs.length cc) := hcv
  obtain ⟨X, hX⟩ : ∃ X : Array Value, X = (chg nm (-1) m (List.replicate 64 0)).toArray := ⟨_, rfl⟩
  have HX : Hid (X = (chg nm (-1) m (List.replicate 64 0)).toArray) := hX
  have hXs : X.size = 67 := by rw [hX, List.size_toArray, length_chg]; rfl
  have C51 := changer_nice W1.drew f.eb 0 nm
  have HC59 : Hid (∀ w3 nb sb, W1.drew.grownBy w3 none → w3.cell? ⟨nb, 0, none⟩ = some (.string nm) → w3.cell? ⟨sb, 0, none⟩ = some (.pointer (some ⟨f.eb, 0, none⟩)) →
      Calls Tryz.prog 135 #[.int .i64 (-1), .pointer (some ⟨nb, 0, none⟩), .pointer (some ⟨sb, 0, none⟩)] w3 fun e w' => e = .returned (.agg X) ∧ w3.grownBy w' none) := fun w3 nb sb hg3 h1 h2 => by
    rw [hX]; exact change_size w3 nb sb f.eb 0 nm a1 m c1 h1 h2 (hg3.cell (w := W1.drew) hcell1 (by simp))
  have HCC : Hid (∀ w3, W1.drew.grownBy w3 none → w3.cell? ⟨b, 1, none⟩ = some (.slice ca D1.chs.length cc)) := fun w3 hg3 => hg3.cell (w := W1.drew) hcvc (by simp)
  have hfold : ∀ Z : Array Value, Z.size = 67 → Array.foldl (fun cs x => cs.setIfInBounds x.snd x.fst) Z X.zipIdx 0 67 = X := fun Z hZ => fold_all X Z hXs hZ
  have HAP : Hid (∀ w4, W1.drew.grownBy w4 none → ∃ v' w', (Builtin.append_ #[74, 74] 74 #[.slice ca D1.chs.length cc, .slice (some ⟨w4.heap.size, 0, none⟩) 1 1]).run Tryz.prog (w4.alloc (.cells X 112)) = .ok v' w' ∧
      (w'.ownsRow base 112 67 v' (D1.chs ++ [Ch.mk nm (-1) m (List.replicate 64 0)]).length (chcells (D1.chs ++ [Ch.mk nm (-1) m (List.replicate 64 0)])) ∧ (w4.alloc (.cells X 112)).grownBy w' (Value.slice ca D1.chs.length cc).ownBlock ∧
      ∃ q, v'.ownBlock = some q ∧ ((Value.slice ca D1.chs.length cc).ownBlock = some q ∨ (w4.alloc (.cells X 112)).heap.size ≤ q))) := fun w4 hg4 => by
    have R4 := (R1.drew.keep hg4).keep (World.grownBy_alloc w4 (.cells X 112) none)
    rw [← hcv]
    exact app_change _ base D1.cv D1.chs ⟨nm, -1, m, List.replicate 64 0⟩ (by simp) R4.ochs w4.heap.size ((alloc_new _ _).trans (by rw [hX]; rfl)) hchx R4.base_le
  have HB : Hid (∀ w4 w5, W1.drew.grownBy w4 none → (w4.alloc (.cells X 112)).grownBy w5 (Value.slice ca D1.chs.length cc).ownBlock → Blk w5 b D1.cells 76) := fun w4 w5 hg4 hg5 => by
    have R4 := (R1.drew.keep hg4).keep (World.grownBy_alloc w4 (.cells X 112) none)
    rw [← hcv] at hg5
    exact (hg5.block b R4.blk.lt (fun e => by have h1 := R4.wc b e.symm; have h2 := R4.wb; omega)).trans R4.blk
  have HD1 : Hid (D1.cv = Dx.cv ∧ D1.chs = Dx.chs) := hD1c
  clear R1 hD1 hcv hX hD1c
  go_region_law (first
    | (refine step_append_run rfl (.tmp 20) (.tmp 27) 74 74 rfl (.slice ca D1.chs.length cc) (.slice (some ⟨w4.heap.size, 0, none⟩) 1 1) (by simp [Act.eval]) (by simp [Act.eval]) _ _ (fun v w h => ownsRow_form h.1) (HAP.out w4 hg4') ?_; intro a5 c5 w5 hR5; have hB5 := (HB.out w4 w5 hg4' hR5.2.1).cell 1; have hF5 := (HB.out w4 w5 hg4' hR5.2.1).frozen 1; simp at hB5)
    | (go_simp; go_at_call 115; refine C51.mono ?_; rintro e w3 ⟨nb, sb, rfl, hn3, hs3, hg3, _, _⟩; have hc3 := HCC.out w3 hg3; simp only [])
    | (go_simp; go_at_call 135; refine (HC59.out w3 nb sb hg3 hn3 hs3).mono ?_; rintro e w4 ⟨rfl, hg4⟩; have hg4' := grown_trans' hg3 hg4; have hc4 := HCC.out w4 hg4'; have hc4x := HCC.out (w4.alloc (.cells X 112)) (grown_trans' hg4' (World.grownBy_alloc _ _ _)); simp only []))
  all_goals
    go_end0
    have R4 := (HR1.out.drew.keep hg4').keep (World.grownBy_alloc w4 (.cells X 112) none)
    have hcv' := HCV.out
    obtain ⟨hR51, hR52, q, hq1, hq2⟩ := hR5
    rw [← hcv'] at hR52 hq2
    obtain ⟨N1, N2⟩ := note_done R4 hR52 _ _ hR51 hq1 hq2 (fun c hc => by
      rcases List.mem_append.1 hc with h | h
      · exact R4.c64 c h
      · obtain rfl : c = Ch.mk nm (-1) m (List.replicate 64 0) := by simpa using h
        simp)
    have hb4 : Below base W1 (w4.alloc (.cells X 112)) := ⟨hg4'.os, hg4'.tape, hg4'.output, Nat.le_trans hg4'.size (by simp), fun k hk => by
      have hk1 : k < W1.heap.size := by have := HR1.out.base_le; omega
      have hk4 : k < w4.heap.size := Nat.lt_of_lt_of_le hk1 hg4'.size
      rw [Below.heap_alloc _ _ _ hk4]; exact hg4'.block k hk1 (by simp)⟩
    have hD := HD.out
    subst hD
    refine ⟨rfl, ?_, f, Dx, v', .slice a5 (Dx.chs ++ [Ch.mk nm (-1) m (List.replicate 64 0)]).length c5, _, HE.out, by simpa using N1⟩
    have := (hbel1.trans hb4).trans N2
    simpa using this
end Go.Proofs.YteocmhbllckpjaaGreat

namespace Go.Proofs.YteocmhbllckpjaaGreat
open Go.ChangeShapes Go.WideShapes Go.ChangeAt Go.RowKit
set_option linter.unusedVariables false

/-- What Truncate makes of a disk, ahead of its step's end. -/
def CutTo (D : DS) (nm : ByteArray) (n : Nat) (D' : DS) : Prop :=
  (n = flen D nm ∧ D' = D) ∨ (n ≠ flen D nm ∧ ∃ f1 Dx v' cv', Entered D nm f1 Dx ∧ D' = { Dx with fs := upd Dx.fs f1.born fun x => { x with sv := v', seen := rsz f1.seen n }, cv := cv', chs := Dx.chs ++ [⟨nm, -1, n, List.replicate 64 0⟩] })

set_option maxHeartbeats 2000000 in
set_option maxRecDepth 10000 in
theorem truncate_ok (w : World) (base b : Nat) (D : DS) (who : Nat → Nat) (R : Rep w base b D who) (F : Fine D) (hdn : D.down = false) (nm : ByteArray) (n : Nat) (hend : n ≤ 1048576)
    (hroom : n ≤ flen D nm ∨ (total D : Int) + ((n : Int) - (flen D nm : Int)) ≤ D.room) :
    Calls Tryz.prog 133 #[.pointer (some ⟨b, 0, none⟩), .string nm, .int .i64 n] w fun e w' => e = .returned (.int .i64 (ans D)) ∧ Below base w w' ∧ ∃ D' who', CutTo D nm n D' ∧ Rep w' base b (stepped D') who' := by
  have M : Hid (Calls Tryz.prog 69 #[.pointer (some ⟨b, 0, none⟩), .int .i64 n, .int .i64 0] w fun e w' => e = .returned (.int .i64 0) ∧ w = w') := misfit_rep w base b D who R hdn n 0 (by omega)
  have hfl : flen D nm ≤ 1048576 := by
    unfold flen
    cases hl : look D.fs nm with
    | none => simp
    | some f => simpa using F.lens f (List.mem_of_find?_eq_some hl)
  have L : Calls Tryz.prog 71 #[.pointer (some ⟨b, 0, none⟩), .string nm, .int .i64 n] w fun e w' => e = .returned (.bool false) ∧ w.grownBy w' none := by
    by_cases h : n ≤ flen D nm
    · exact lacks_no w b D.mb D.cv D.room D.fuse D.steps D.starts D.down D.fs D.clock nm (fun f => f.seen.length) (flen D nm) n R.blk R.map R.sizes rfl h hfl
    · refine (lacks_yes w b D.mb D.cv D.room D.fuse D.steps D.starts D.down D.fs D.clock nm (fun f => f.seen.length) (flen D nm) n R.blk R.map R.born R.nodup R.sizes F.tot rfl (by omega) (by omega)).mono ?_
      rintro e w' ⟨rfl, hg⟩
      refine ⟨ret_bool ?_, hg⟩
      have : (total D : Int) + ((n : Int) - (flen D nm : Int)) ≤ D.room := by rcases hroom with h1 | h1; omega; omega
      simp only [decide_eq_false_iff_not]
      unfold total at this
      omega
  have HLk := hide L
  have HS : Hid (∀ V, w.grownBy V none → Calls Tryz.prog 39 #[.pointer (some ⟨b, 0, none⟩), .string nm] V fun e w' => ∃ eb a c, e = .returned (.pointer (some ⟨eb, 0, none⟩)) ∧ w'.cell? ⟨eb, 0, none⟩ = some (.slice a (flen D nm) c) ∧ V.grownBy w' none) := fun V hV => by
    have RV := R.keep hV
    exact seen_any V b D.mb D.cv D.room D.fuse D.steps D.starts D.down D.fs D.clock nm (fun f => f.seen.length) RV.blk RV.map RV.sizes
  have HR := hide R
  have HF := hide F
  clear R L hroom
  by_cases hne : n = flen D nm
  · subst hne
    go_enter Tryz.func133, Tryz.ntmps133
    go_wp2_with (first
      | (go_at_call 69; refine Calls.mono M.out ?_; rintro e w0 ⟨rfl, rfl⟩)
      | (go_at_call 71; refine Calls.mono HLk.out ?_; rintro e w1 ⟨rfl, hg1⟩; have HG1 := hide hg1; clear hg1)
      | (go_at_call 39; refine Calls.mono (HS.out w1 HG1.out) ?_; rintro e w2 ⟨eb, a, c, rfl, hc2, hg2⟩; have HG2 := hide (grown_trans' HG1.out hg2); clear hg2)
      | (go_at_call 79; refine (size_of w2 eb 0 a _ c hc2).mono ?_; rintro e w3 ⟨rfl, rfl⟩)
      | (go_at_call 70; refine Calls.mono (endStep_rep w2 base b D who (HR.out.keep HG2.out) HF.out.f0 HF.out.f1 HF.out.s0 HF.out.s1) ?_; rintro e w4 ⟨rfl, hR4, hb4⟩; have HR4 := hide hR4; have Hb4 := hide hb4; clear hR4 hb4))
    go_ret
    exact ⟨rfl, ((Only.of_grown HG2.out).below HR.out.base_le (by simp)).trans Hb4.out, D, who, .inl ⟨rfl, rfl⟩, HR4.out⟩
  · have hI : ¬ (n : Int) = (flen D nm : Int) := by omega
    have HN := hide hne
    go_enter Tryz.func133, Tryz.ntmps133
    go_wp2_with (first
      | (go_at_call 69; refine Calls.mono M.out ?_; rintro e w0 ⟨rfl, rfl⟩)
      | (go_at_call 71; refine Calls.mono HLk.out ?_; rintro e w1 ⟨rfl, hg1⟩; have HG1 := hide hg1; clear hg1)
      | (go_at_call 39; refine Calls.mono (HS.out w1 HG1.out) ?_; rintro e w2 ⟨eb, a, c, rfl, hc2, hg2⟩; have HG2 := hide (grown_trans' HG1.out hg2); clear hg2)
      | (go_at_call 79; refine (size_of w2 eb 0 a _ c hc2).mono ?_; rintro e w3 ⟨rfl, rfl⟩)
      | (go_at_call 114; refine Calls.mono (resize_any w2 base b D who (HR.out.keep HG2.out) nm n hend HF.out.lens (by have := HF.out.chn; omega)) ?_; rintro e w3 ⟨rfl, hb3, f1, Dx, v', cv', who', hE, hR3⟩; have Hb3 := hide hb3; have HE := hide hE; have HR3 := hide hR3; clear hb3 hE hR3)
      | (go_at_call 70; refine Calls.mono (endStep_rep w3 base b _ who' HR3.out (by rw [(Entered.facts HE.out).1]; exact HF.out.f0) (by rw [(Entered.facts HE.out).1]; exact HF.out.f1) (by rw [(Entered.facts HE.out).2.1]; exact HF.out.s0) (by rw [(Entered.facts HE.out).2.1]; exact HF.out.s1)) ?_; rintro e w4 ⟨rfl, hR4, hb4⟩; have HR4 := hide hR4; have Hb4 := hide hb4; clear hR4 hb4))
    go_ret
    refine ⟨ret_int (by simp [ans, (Entered.facts HE.out).1]), (((Only.of_grown HG2.out).below HR.out.base_le (by simp)).trans Hb3.out).trans Hb4.out, _, who', .inr ⟨HN.out, f1, Dx, v', cv', HE.out, rfl⟩, HR4.out⟩
end Go.Proofs.YteocmhbllckpjaaGreat
