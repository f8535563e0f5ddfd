/- A step's end, Write, Sync, Truncate, Crash, CrashIn: with what they leave alone. -/
/- Truncate: with what it leaves alone. -/
import Derived.Test.YteocmhbllckpjaaGreatN2
import Derived.Test.YteocmhbllckpjaaGreatV7m
import Derived.Test.YteocmhbllckpjaaGreatV8
import Derived.Test.YteocmhbllckpjaaGreatW2
import Derived.Test.YteocmhbllckpjaaGreatT1
namespace Go.Proofs.YteocmhbllckpjaaGreat
open Go.ChangeShapes Go.WideShapes Go.ChangeAt Go.RowKit
open Go.ChangeMaps (setBlock)
set_option linter.unusedVariables false
theorem endStep_moves (w : World) (base b : Nat) (D : DS) (who : Nat → Nat) (R : Rep w base b D who) (hf0 : 0 ≤ D.fuse) (hf1 : D.fuse ≤ 9223372036854775807) (hs0 : 0 ≤ D.steps) (hs1 : D.steps ≤ 1000000) :
    Calls Tryz.prog 70 #[.pointer (some ⟨b, 0, none⟩)] w fun e w' => e = .returned (.int .i64 (ans D)) ∧ RM w D w' base b (stepped D) who := by
  have h3 := R.blk.cell 3
  have h4 := R.blk.cell 4
  have f4 := R.blk.frozen 4
  have f3 := R.blk.frozen 3
  have f6 := R.blk.frozen 6
  have h6 := R.blk.cell 6
  simp at h3 h4 h6
  have B := R.blk
  obtain ⟨S, hS⟩ : ∃ S : Int, S = D.steps + 1 := ⟨_, rfl⟩
  have HS : Hid (S = D.steps + 1) := hS
  rcases Int.lt_trichotomy D.fuse 1 with h | h | h
  · have h0 : D.fuse = 0 := by omega
    rw [h0] at h3
    refine (endStep_none w b D.mb D.cv D.room D.steps D.starts D.down (by have := R.blk; unfold DS.cells at this; rw [h0] at this; exact this) hs0 hs1).mono ?_
    rintro e w' ⟨rfl, rfl⟩
    refine ⟨by simp [ans, h0], R.setD (Only.cellAt _ _ _ _) (stepped D) rfl rfl rfl rfl rfl ?_, Moves.setD (Only.cellAt _ _ _ _) rfl rfl rfl⟩
    have := B.set 4 (.int .i64 (D.steps + 1))
    simpa [stepped, h0, DS.cells] using this
  · rw [h] at h3
    have HB : Hid (Blk w b D.cells 76) := B
    clear B
    have c1 : (w.setCell ⟨b, 4, none⟩ (.int .i64 (D.steps + 1))).cell? ⟨b, 3, none⟩ = some (.int .i64 1) := by
      rw [(HB.out.set 4 _).cell 3]; simp [h]
    have c2 : ((w.setCell ⟨b, 4, none⟩ (.int .i64 (D.steps + 1))).setCell ⟨b, 3, none⟩ (.int .i64 0)).cell? ⟨b, 3, none⟩ = some (.int .i64 0) := by
      rw [((HB.out.set 4 _).set 3 _).cell 3]; simp
    have HR : Hid (Rep w base b D who) := R
    clear R hS
    go_enter Tryz.func70, Tryz.ntmps70
    go_wp2
    go_ret
    have R := HR.out
    refine ⟨by simp [ans, h], R.setD (((Only.cellAt _ _ _ _).trans (Only.cellAt _ _ _ _)).trans (Only.cellAt _ _ _ _)) (stepped D) rfl rfl rfl rfl rfl ?_, Moves.setD (((Only.cellAt _ _ _ _).trans (Only.cellAt _ _ _ _)).trans (Only.cellAt _ _ _ _)) rfl rfl rfl⟩
    have := ((R.blk.set 4 (.int .i64 (D.steps + 1))).set 3 (.int .i64 0)).set 6 (.bool true)
    simpa [stepped, h, DS.cells] using this
  · have HB : Hid (Blk w b D.cells 76) := B
    clear B
    have HR : Hid (Rep w base b D who) := R
    obtain ⟨F, hF⟩ : ∃ F : Int, F = D.fuse := ⟨_, rfl⟩
    have hF1 : 1 < F := by omega
    have hF2 : F ≤ 9223372036854775807 := by omega
    rw [← hF] at h3
    have e0 : (F == 0) = false := by simp; omega
    have e1 : (0 : Int) < F - 1 := by omega
    have HF : Hid (F = D.fuse) := hF
    clear R hS hF h
    go_enter Tryz.func70, Tryz.ntmps70
    go_wp2
    go_ret
    have R := HR.out
    have hF := HF.out
    have h1 : D.fuse ≠ 1 := by omega
    have h0 : D.fuse ≠ 0 := by omega
    refine ⟨by simp [ans, h1], R.setD ((Only.cellAt _ _ _ _).trans (Only.cellAt _ _ _ _)) (stepped D) rfl rfl rfl rfl rfl ?_, Moves.setD ((Only.cellAt _ _ _ _).trans (Only.cellAt _ _ _ _)) rfl rfl rfl⟩
    have := ((R.blk.set 4 (.int .i64 (D.steps + 1))).set 3 (.int .i64 (F - 1)))
    have hb1 : (D.fuse == 1) = false := by simp [h1]
    simpa [stepped, h0, h1, hb1, DS.cells, hF] using this


theorem write_moves (w : World) (base b : Nat) (D : DS) (who : Nat → Nat) (R : Rep w base b D who) (F : Fine D) (hdn : D.down = false) (nm : ByteArray) (s : ByteArray) (at_ : Nat) (hs : 0 < s.size) (hend : at_ + s.size ≤ 1048576)
    (hroom : at_ + s.size ≤ flen D nm ∨ (total D : Int) + ((at_ + s.size : Nat) - (flen D nm : Int)) ≤ D.room) :
    Calls Tryz.prog 35 #[.pointer (some ⟨b, 0, none⟩), .string nm, .int .i64 at_, .string s] w fun e w' => e = .returned (.int .i64 (ans D)) ∧
      ∃ f1 D1 v' cv' who', Entered D nm f1 D1 ∧ RM w D w' base b (stepped { D1 with fs := upd D1.fs f1.born fun x => { x with sv := v', seen := wseen f1.seen at_ s.data.toList }, cv := cv', chs := D1.chs ++ wchs nm f1.seen at_ s.data.toList }) who' := by
  have M := misfit_rep w base b D who R hdn at_ s.size hend
  obtain ⟨en, hen0⟩ : ∃ en : Nat, en = at_ + s.size := ⟨_, rfl⟩
  have hen : (at_ : Int) + (s.size : Int) = (en : Int) := by omega
  have L : Calls Tryz.prog 71 #[.pointer (some ⟨b, 0, none⟩), .string nm, .int .i64 en] w fun e w' => e = .returned (.bool false) ∧ w.grownBy w' none := by
    by_cases h : en ≤ flen D nm
    · by_cases h2 : flen D nm ≤ 1048576
      · exact lacks_no w b D.mb D.cv D.room D.fuse D.steps D.starts D.down D.fs D.clock nm (fun f => f.seen.length) (flen D nm) en R.blk R.map R.sizes rfl h h2
      · exfalso; apply h2
        unfold flen
        cases hl : look D.fs nm with
        | none => simp
        | some f => simpa using F.lens f (List.mem_of_find?_eq_some hl)
    · refine (lacks_yes w b D.mb D.cv D.room D.fuse D.steps D.starts D.down D.fs D.clock nm (fun f => f.seen.length) (flen D nm) en R.blk R.map R.born R.nodup R.sizes F.tot rfl (by omega) (by omega)).mono ?_
      rintro e w' ⟨rfl, hg⟩
      refine ⟨ret_bool ?_, hg⟩
      have : (total D : Int) + ((en : Int) - (flen D nm : Int)) ≤ D.room := by rcases hroom with h1 | h1; omega; omega
      simp only [decide_eq_false_iff_not]
      unfold total at this
      omega
  have Y : ∀ w1, w.grownBy w1 none → Calls Tryz.prog 72 #[.pointer (some ⟨b, 0, none⟩), .string nm, .int .i64 at_, .string s] w1 _ := fun w1 hg => lay_moves w1 base b D who (R.keep hg) nm s at_ hs hend F.lens F.chn
  have hne : s.toList.isEmpty = false := by
    have : s.toList.length = s.size := by rw [ByteArray.toList_eq, Array.length_toList]; rfl
    cases h : s.toList with
    | nil => rw [h] at this; simp at this; omega
    | cons a l => rfl
  have HY : Hid (∀ w1, w.grownBy w1 none → Calls Tryz.prog 72 #[.pointer (some ⟨b, 0, none⟩), .string nm, .int .i64 at_, .string s] w1 _) := Y
  have HR : Hid (Rep w base b D who) := R
  clear Y hroom hen0
  go_enter Tryz.func35, Tryz.ntmps35
  go_wp2_with (first
    | (go_at_call 69; refine M.mono ?_; rintro e w0 ⟨rfl, rfl⟩)
    | (go_at_call 71; refine L.mono ?_; rintro e w1 ⟨rfl, hg1⟩)
    | (go_at_call 72; refine (HY.out w1 hg1).mono ?_; rintro e w2 ⟨rfl, f1, D1, v', cv', who', hE, R2⟩)
    | (go_at_call 70; refine (endStep_moves w2 base b _ who' R2.rep (by rw [(Entered.facts hE).1]; exact F.f0) (by rw [(Entered.facts hE).1]; exact F.f1) (by rw [(Entered.facts hE).2.1]; exact F.s0) (by rw [(Entered.facts hE).2.1]; exact F.s1)).mono ?_; rintro e w3 ⟨rfl, R3⟩))
  go_ret
  exact ⟨ret_int (by simp [ans, (Entered.facts hE).1]), f1, D1, v', cv', who', hE, ((RM.start HR.out).grown hg1).trans (R2.trans R3)⟩

theorem keepM_any (w : World) (base b : Nat) (D : DS) (who : Nat → Nat) (R : Rep w base b D who) (S : Sane D) (nm : ByteArray) :
    Calls Tryz.prog 141 #[.pointer (some ⟨b, 0, none⟩), .string nm] w fun e w' => e = .returned (.tuple #[]) ∧ ∃ D' who', RM w D w' base b D' who' ∧ KeptD D nm D' := by
  cases hl : look D.fs nm with
  | some f =>
    refine (keepM_hit w base b D who R S nm f hl).mono ?_
    rintro e w' ⟨h1, kv, cv, who', h3⟩
    exact ⟨h1, _, who', h3, .inl ⟨f, kv, cv, hl, rfl⟩⟩
  | none =>
    refine (keepM_miss w base b D who R S nm hl).mono ?_
    rintro e w' ⟨h1, cv, who', h3⟩
    exact ⟨h1, _, who', h3, .inr ⟨hl, cv, rfl⟩⟩

set_option maxHeartbeats 1000000 in
theorem sync_moves (w : World) (base b : Nat) (D : DS) (who : Nat → Nat) (R : Rep w base b D who) (S : Sane D) (F : Fine D) (hdn : D.down = false) (hfu : D.fuse ≠ 1) (nm : ByteArray) :
    Calls Tryz.prog 127 #[.pointer (some ⟨b, 0, none⟩), .string nm] w fun e w' => e = .returned (.int .i64 0) ∧ ∃ D' who', RM w D w' base b D' who' ∧ KeptD (stepped D) nm D' := by
  have RF := hide (refusal_rep w base b D who R)
  have ES := hide (endStep_moves w base b D who R F.f0 F.f1 F.s0 F.s1)
  have HA : ans D = 0 := if_neg hfu
  have HS := hide S.stepped
  clear R S F hfu
  go_enter Tryz.func127, Tryz.ntmps127
  go_wp2_with (first
    | (go_at_call 38; refine Calls.mono RF.out ?_; rintro e w0 ⟨rfl, rfl⟩; rw [hdn])
    | (go_at_call 70; refine Calls.mono ES.out ?_; rintro e w1 ⟨rfl, hR1⟩; rw [HA]; have HR1 := hide hR1; clear hR1)
    | (go_at_call 141; refine Calls.mono (keepM_any w1 base b _ who HR1.out.rep HS.out nm) ?_; rintro e w2 ⟨rfl, D2, who2, hR2, hK2⟩; have HR2 := hide (HR1.out.trans hR2); have HK2 := hide hK2; clear hR2 hK2))
  go_ret
  exact ⟨rfl, D2, who2, HR2.out, HK2.out⟩

set_option maxHeartbeats 1000000 in
theorem write_emptyM (w : World) (base b : Nat) (D : DS) (who : Nat → Nat) (R : Rep w base b D who) (F : Fine D) (hdn : D.down = false) (nm s : ByteArray) (at_ : Nat) (hs : s.size = 0) (hend : at_ ≤ 1048576) :
    Calls Tryz.prog 35 #[.pointer (some ⟨b, 0, none⟩), .string nm, .int .i64 at_, .string s] w fun e w' => e = .returned (.int .i64 (ans D)) ∧ RM w D w' base b (stepped D) who := by
  obtain rfl : s = ⟨#[]⟩ := by
    cases s with | mk d =>
    have : d.size = 0 := hs
    rw [Array.eq_empty_of_size_eq_zero this]
  have M := hide (misfit_rep w base b D who R hdn at_ 0 hend)
  have ES := hide (endStep_moves w base b D who R F.f0 F.f1 F.s0 F.s1)
  clear R F hdn
  go_enter Tryz.func35, Tryz.ntmps35
  go_wp2_with (first
    | (go_at_call 69; refine Calls.mono M.out ?_; rintro e w0 ⟨rfl, rfl⟩)
    | (go_at_call 70; refine Calls.mono ES.out ?_; rintro e w1 ⟨rfl, hR1⟩; have HR1 := hide hR1; clear hR1))
  go_ret
  exact ⟨rfl, HR1.out⟩
theorem crash_moves (w : World) (base b : Nat) (D : DS) (who : Nat → Nat) (R : Rep w base b D who) :
    Calls Tryz.prog 33 #[.pointer (some ⟨b, 0, none⟩)] w fun e w' => e = .returned (.tuple #[]) ∧ RM w D w' base b { D with down := true } who := by
  have M := made_rep w base b D who R
  have h6 := R.blk.cell 6
  have f6 := R.blk.frozen 6
  simp at h6
  have HR : Hid (Rep w base b D who) := R
  clear R
  go_enter Tryz.func33, Tryz.ntmps33
  go_wp2_with (go_at_call 37; refine M.mono ?_; rintro e w1 ⟨rfl, rfl⟩)
  go_end0
  have R := HR.out
  refine ⟨rfl, R.setD (Only.cellAt _ _ _ _) { D with down := true } rfl rfl rfl rfl rfl ?_, Moves.setD (Only.cellAt _ _ _ _) rfl rfl rfl⟩
  have := R.blk.set 6 (.bool true)
  simpa [DS.cells] using this

/-- A step that is to crash: n below 1 says none. -/
theorem crashIn_moves (w : World) (base b : Nat) (D : DS) (who : Nat → Nat) (R : Rep w base b D who) (n : Int) :
    Calls Tryz.prog 24 #[.pointer (some ⟨b, 0, none⟩), .int .i64 n] w fun e w' => e = .returned (.tuple #[]) ∧ RM w D w' base b { D with fuse := max n 0 } who := by
  have M := made_rep w base b D who R
  have h3 := R.blk.cell 3
  have f3 := R.blk.frozen 3
  simp at h3
  have HR : Hid (Rep w base b D who) := R
  clear R
  have fin : ∀ m : Int, m = max n 0 → RM w D (w.setCell ⟨b, 3, none⟩ (.int .i64 m)) base b { D with fuse := max n 0 } who := fun m hm => by
    have R := HR.out
    subst hm
    refine ⟨R.setD (Only.cellAt _ _ _ _) { D with fuse := max n 0 } rfl rfl rfl rfl rfl ?_, Moves.setD (Only.cellAt _ _ _ _) rfl rfl rfl⟩
    have := R.blk.set 3 (.int .i64 (max n 0))
    simpa [DS.cells] using this
  have HF : Hid (∀ m : Int, m = max n 0 → RM w D (w.setCell ⟨b, 3, none⟩ (.int .i64 m)) base b { D with fuse := max n 0 } who) := fin
  clear fin
  by_cases h : n < 0
  · go_enter Tryz.func24, Tryz.ntmps24
    go_wp2_with (go_at_call 37; refine M.mono ?_; rintro e w1 ⟨rfl, rfl⟩)
    go_end0
    exact ⟨rfl, HF.out _ (by omega)⟩
  · go_enter Tryz.func24, Tryz.ntmps24
    go_wp2_with (go_at_call 37; refine M.mono ?_; rintro e w1 ⟨rfl, rfl⟩)
    go_end0
    exact ⟨rfl, HF.out _ (by omega)⟩

end Go.Proofs.YteocmhbllckpjaaGreat

namespace Go.Proofs.YteocmhbllckpjaaGreat
open Go.ChangeShapes Go.WideShapes Go.ChangeAt Go.RowKit
open Go.ChangeMaps (setBlock)
set_option linter.unusedVariables false
theorem sresizeM (w : World) (base b : Nat) (D : DS) (who : Nat → Nat) (R : Rep w base b D who) (f : FL) (hf : f ∈ D.fs) (n : Nat) (hn : n ≤ 1048576) (hl : f.seen.length ≤ 1048576) :
    Calls Tryz.prog 97 #[.pointer (some ⟨f.eb, 0, none⟩), .int .i64 n] w fun e w' => e = .returned (.tuple #[]) ∧ Only (f.eb :: f.sv.ownBlock.toList) w w' ∧
      ∃ v' who', RM w D w' base b { D with fs := upd D.fs f.born fun x => { x with sv := v', seen := rsz f.seen n } } who' := by
  have hek : ∀ g, f.sv.ownBlock = some g → g ≠ f.eb := fun g hg e => by have h1 := R.ws f hf _ hg; have h2 := R.we f hf; rw [e] at h1; omega
  by_cases h : n ≤ f.seen.length
  · refine (file_resize_less w f.eb 0 #[f.sv, f.kv] 119 base f.sv f.seen n (R.ent f hf) rfl (R.osv f hf) h hl).mono ?_
    rintro e w' ⟨rfl, v', ho, hv, rfl⟩
    have hO : Only (f.eb :: f.sv.ownBlock.toList) w (w.setCell ⟨f.eb, 0, none⟩ v') := (Only.setCell w ⟨f.eb, 0, none⟩ v').mono (by simp)
    have R' := R.setS2 hf v' (rsz f.seen n) (fun g hg => .inl (hv g hg)) hO ((R.ent f hf).set 0 v') (by
      unfold rsz
      rw [if_pos h]
      exact ownsRow_only ho (Only.setCell w ⟨f.eb, 0, none⟩ v') (fun k hk => by have := hek k (hv k hk); simp; exact this))
    exact ⟨rfl, hO, v', _, R', Moves.seenD hf (fun g hg => .inl (hv g hg)) hO⟩
  · refine (file_resize_more w f.eb 0 #[f.sv, f.kv] 119 base f.sv f.seen n (R.ent f hf) rfl (R.osv f hf) (fun e => hek _ e rfl) (by omega) hn R.base_le).mono ?_
    rintro e w' ⟨rfl, v', w2, hS1, hS2, ⟨g, hvg, hgg⟩, rfl⟩
    have hne : f.eb ≠ g := fun e => by
      rcases hgg with h | h
      · exact hek _ h e.symm
      · have := (R.ent f hf).lt; omega
    have hO1 : Only (f.eb :: f.sv.ownBlock.toList) w (w2.setCell ⟨f.eb, 0, none⟩ v') := ((Only.of_grown hS2).mono (fun j hj => List.mem_cons_of_mem _ hj)).trans ((Only.setCell _ _ _).mono (by simp))
    have hB2 : Blk w2 f.eb #[f.sv, f.kv] 119 := (Only.of_grown hS2).blk (R.ent f hf) (fun hm => hek f.eb (by simpa using hm) rfl)
    have R1 := R.setS2 hf v' (rsz f.seen n) (fun k hk => by rw [hvg] at hk; cases hk; exact hgg) hO1 (hB2.set 0 v') (by
      unfold rsz
      rw [if_neg h]
      exact ownsRow_only hS1 (Only.setCell w2 ⟨f.eb, 0, none⟩ v') (fun k hk => by rw [hvg] at hk; cases hk; simp; omega))
    exact ⟨rfl, hO1, v', _, R1, Moves.seenD hf (fun k hk => by rw [hvg] at hk; cases hk; exact hgg) hO1⟩


set_option maxHeartbeats 2000000 in
set_option maxRecDepth 100000 in
theorem resize_anyM (w : World) (base b : Nat) (D : DS) (who : Nat → Nat) (R : Rep w base b D who) (nm : ByteArray) (m : Nat) (hm2 : m ≤ 1048576) (hlens : ∀ f ∈ D.fs, f.seen.length ≤ 1048576) (hch : D.chs.length ≤ 1000000000) :
    Calls Tryz.prog 114 #[.pointer (some ⟨b, 0, none⟩), .string nm, .int .i64 m] w fun e w' => e = .returned (.tuple #[]) ∧ ∃ f1 Dx v' cv' who', Entered D nm f1 Dx ∧
      RM w D w' base b { Dx with fs := upd Dx.fs f1.born fun x => { x with sv := v', seen := rsz f1.seen m }, cv := cv', chs := Dx.chs ++ [⟨nm, -1, m, List.replicate 64 0⟩] } who' := by
  have E := entry_moves w base b D who R nm
  have HBs := hide R.base_le
  have HLn := hide hlens
  clear R hlens
  go_enter Tryz.func114, Tryz.ntmps114
  go_wp2_with (first
    | (go_at_call 113; refine E.mono ?_; rintro e w1 ⟨f, Dx, whox, rfl, hRMx, hlx, hEx⟩; have HRx := hide hRMx.rep; have HLx := hide hlx; have Hbx := hide hRMx.mv; have HEx := hide hEx; clear hRMx hlx hEx)
    | (go_at_call 97; refine (sresizeM w1 base b Dx whox HRx.out f (List.mem_of_find?_eq_some HLx.out) m hm2 (sx HEx.out HLn.out)).mono ?_; rintro e W1 ⟨rfl, hO1, v', who1, hRM1⟩; have hR1 := hRM1.rep; have hbel1 := Hbx.out.trans hRM1.mv; clear hRM1))
  have hf : f ∈ Dx.fs := List.mem_of_find?_eq_some HLx.out
  have hE : Entered D nm f Dx := HEx.out
  have hmem : ({ f with sv := v', seen := rsz f.seen m } : FL) ∈ (upd Dx.fs f.born fun x => { x with sv := v', seen := rsz f.seen m }) := mem_upd_self hf (fun x => { x with sv := v', seen := rsz f.seen m })
  have hown : Own W1 base v' (rsz f.seen m) := hR1.osv _ hmem
  obtain ⟨a1, c1, hv'⟩ := ownsRow_form hown
  have hcell1 : W1.cell? ⟨f.eb, 0, none⟩ = some (.slice a1 m c1) := by
    have h1 := (hR1.ent _ hmem).cell 0
    rw [hv', length_rsz2] at h1
    exact h1
  generalize hD1 : ({ Dx with fs := upd Dx.fs f.born fun x => { x with sv := v', seen := rsz f.seen m } } : DS) = D1 at hR1 hbel1
  have HM1 := hide hbel1
  have hD1c : D1.cv = Dx.cv ∧ D1.chs = Dx.chs := by rw [← hD1]; exact ⟨rfl, rfl⟩
  have hchx : D1.chs.length ≤ 1000000000 := by
    rw [hD1c.2]
    rcases hE with ⟨_, rfl⟩ | ⟨_, eb, _, rfl⟩
    · exact hch
    · exact hch
  have HD : Hid (({ Dx with fs := upd Dx.fs f.born fun x => { x with sv := v', seen := rsz f.seen m } } : DS) = D1) := hD1
  have R1 := hR1
  have HR1 : Hid (Rep W1 base b D1 who1) := hR1
  have HE := hide hE
  clear hR1 hmem hown hE hf hO1 hv' hbel1
  obtain ⟨ca, cc, hcv⟩ := ownsRow_form R1.ochs
  have hcvc : W1.cell? ⟨b, 1, none⟩ = some (.slice ca D1.chs.length cc) := by rw [R1.blk.cell 1, ← hcv]; rfl
  have HCV : Hid (D1.cv = .slice ca D1.chs.length cc) := hcv
  obtain ⟨X, hX⟩ : ∃ X : Array Value, X = (chg nm (-1) m (List.replicate 64 0)).toArray := ⟨_, rfl⟩
  have HX : Hid (X = (chg nm (-1) m (List.replicate 64 0)).toArray) := hX
  have hXs : X.size = 67 := by rw [hX, List.size_toArray, length_chg]; rfl
  have C51 := changer_nice W1.drew f.eb 0 nm
  have HC59 : Hid (∀ w3 nb sb, W1.drew.grownBy w3 none → w3.cell? ⟨nb, 0, none⟩ = some (.string nm) → w3.cell? ⟨sb, 0, none⟩ = some (.pointer (some ⟨f.eb, 0, none⟩)) →
      Calls Tryz.prog 135 #[.int .i64 (-1), .pointer (some ⟨nb, 0, none⟩), .pointer (some ⟨sb, 0, none⟩)] w3 fun e w' => e = .returned (.agg X) ∧ w3.grownBy w' none) := fun w3 nb sb hg3 h1 h2 => by
    rw [hX]; exact change_size w3 nb sb f.eb 0 nm a1 m c1 h1 h2 (hg3.cell (w := W1.drew) hcell1 (by simp))
  have HCC : Hid (∀ w3, W1.drew.grownBy w3 none → w3.cell? ⟨b, 1, none⟩ = some (.slice ca D1.chs.length cc)) := fun w3 hg3 => hg3.cell (w := W1.drew) hcvc (by simp)
  have hfold : ∀ Z : Array Value, Z.size = 67 → Array.foldl (fun cs x => cs.setIfInBounds x.snd x.fst) Z X.zipIdx 0 67 = X := fun Z hZ => fold_all X Z hXs hZ
  have HAP : Hid (∀ w4, W1.drew.grownBy w4 none → ∃ v' w', (Builtin.append_ #[74, 74] 74 #[.slice ca D1.chs.length cc, .slice (some ⟨w4.heap.size, 0, none⟩) 1 1]).run Tryz.prog (w4.alloc (.cells X 112)) = .ok v' w' ∧
      (w'.ownsRow base 112 67 v' (D1.chs ++ [Ch.mk nm (-1) m (List.replicate 64 0)]).length (chcells (D1.chs ++ [Ch.mk nm (-1) m (List.replicate 64 0)])) ∧ (w4.alloc (.cells X 112)).grownBy w' (Value.slice ca D1.chs.length cc).ownBlock ∧
      ∃ q, v'.ownBlock = some q ∧ ((Value.slice ca D1.chs.length cc).ownBlock = some q ∨ (w4.alloc (.cells X 112)).heap.size ≤ q))) := fun w4 hg4 => by
    have R4 := (R1.drew.keep hg4).keep (World.grownBy_alloc w4 (.cells X 112) none)
    rw [← hcv]
    exact app_change _ base D1.cv D1.chs ⟨nm, -1, m, List.replicate 64 0⟩ (by simp) R4.ochs w4.heap.size ((alloc_new _ _).trans (by rw [hX]; rfl)) hchx R4.base_le
  have HB : Hid (∀ w4 w5, W1.drew.grownBy w4 none → (w4.alloc (.cells X 112)).grownBy w5 (Value.slice ca D1.chs.length cc).ownBlock → Blk w5 b D1.cells 76) := fun w4 w5 hg4 hg5 => by
    have R4 := (R1.drew.keep hg4).keep (World.grownBy_alloc w4 (.cells X 112) none)
    rw [← hcv] at hg5
    exact (hg5.block b R4.blk.lt (fun e => by have h1 := R4.wc b e.symm; have h2 := R4.wb; omega)).trans R4.blk
  have HD1 : Hid (D1.cv = Dx.cv ∧ D1.chs = Dx.chs) := hD1c
  clear R1 hD1 hcv hX hD1c
  go_region_law (first
    | (refine step_append_run rfl (.tmp 20) (.tmp 27) 74 74 rfl (.slice ca D1.chs.length cc) (.slice (some ⟨w4.heap.size, 0, none⟩) 1 1) (by simp [Act.eval]) (by simp [Act.eval]) _ _ (fun v w h => ownsRow_form h.1) (HAP.out w4 hg4') ?_; intro a5 c5 w5 hR5; have hB5 := (HB.out w4 w5 hg4' hR5.2.1).cell 1; have hF5 := (HB.out w4 w5 hg4' hR5.2.1).frozen 1; simp at hB5)
    | (go_simp; go_at_call 115; refine C51.mono ?_; rintro e w3 ⟨nb, sb, rfl, hn3, hs3, hg3, _, _⟩; have hc3 := HCC.out w3 hg3; simp only [])
    | (go_simp; go_at_call 135; refine (HC59.out w3 nb sb hg3 hn3 hs3).mono ?_; rintro e w4 ⟨rfl, hg4⟩; have hg4' := grown_trans' hg3 hg4; have hc4 := HCC.out w4 hg4'; have hc4x := HCC.out (w4.alloc (.cells X 112)) (grown_trans' hg4' (World.grownBy_alloc _ _ _)); simp only []))
  all_goals
    go_end0
    have R4 := (HR1.out.drew.keep hg4').keep (World.grownBy_alloc w4 (.cells X 112) none)
    have hcv' := HCV.out
    obtain ⟨hR51, hR52, q, hq1, hq2⟩ := hR5
    rw [← hcv'] at hR52 hq2
    obtain ⟨N1, N2⟩ := note_moves R4 hR52 _ _ hR51 hq1 hq2 (fun c hc => by
      rcases List.mem_append.1 hc with h | h
      · exact R4.c64 c h
      · obtain rfl : c = Ch.mk nm (-1) m (List.replicate 64 0) := by simpa using h
        simp)
    have hg14 : W1.grownBy (w4.alloc (.cells X 112)) none := grown_trans' (a := W1) ⟨hg4'.os, hg4'.tape, hg4'.output, hg4'.size, hg4'.block⟩ (World.grownBy_alloc _ _ _)
    have hM := (HM1.out.trans (Moves.grown hg14)).trans N2
    have hD := HD.out
    subst hD
    exact ⟨rfl, f, Dx, v', .slice a5 (Dx.chs ++ [Ch.mk nm (-1) m (List.replicate 64 0)]).length c5, _, HE.out, by simpa using N1, by simpa using hM⟩
set_option maxHeartbeats 2000000 in
set_option maxRecDepth 10000 in
theorem truncate_moves (w : World) (base b : Nat) (D : DS) (who : Nat → Nat) (R : Rep w base b D who) (F : Fine D) (hdn : D.down = false) (nm : ByteArray) (n : Nat) (hend : n ≤ 1048576)
    (hroom : n ≤ flen D nm ∨ (total D : Int) + ((n : Int) - (flen D nm : Int)) ≤ D.room) :
    Calls Tryz.prog 133 #[.pointer (some ⟨b, 0, none⟩), .string nm, .int .i64 n] w fun e w' => e = .returned (.int .i64 (ans D)) ∧ ∃ D' who', CutTo D nm n D' ∧ RM w D w' base b (stepped D') who' := by
  have M : Hid (Calls Tryz.prog 69 #[.pointer (some ⟨b, 0, none⟩), .int .i64 n, .int .i64 0] w fun e w' => e = .returned (.int .i64 0) ∧ w = w') := misfit_rep w base b D who R hdn n 0 (by omega)
  have hfl : flen D nm ≤ 1048576 := by
    unfold flen
    cases hl : look D.fs nm with
    | none => simp
    | some f => simpa using F.lens f (List.mem_of_find?_eq_some hl)
  have L : Calls Tryz.prog 71 #[.pointer (some ⟨b, 0, none⟩), .string nm, .int .i64 n] w fun e w' => e = .returned (.bool false) ∧ w.grownBy w' none := by
    by_cases h : n ≤ flen D nm
    · exact lacks_no w b D.mb D.cv D.room D.fuse D.steps D.starts D.down D.fs D.clock nm (fun f => f.seen.length) (flen D nm) n R.blk R.map R.sizes rfl h hfl
    · refine (lacks_yes w b D.mb D.cv D.room D.fuse D.steps D.starts D.down D.fs D.clock nm (fun f => f.seen.length) (flen D nm) n R.blk R.map R.born R.nodup R.sizes F.tot rfl (by omega) (by omega)).mono ?_
      rintro e w' ⟨rfl, hg⟩
      refine ⟨ret_bool ?_, hg⟩
      have : (total D : Int) + ((n : Int) - (flen D nm : Int)) ≤ D.room := by rcases hroom with h1 | h1; omega; omega
      simp only [decide_eq_false_iff_not]
      unfold total at this
      omega
  have HLk := hide L
  have HS : Hid (∀ V, w.grownBy V none → Calls Tryz.prog 39 #[.pointer (some ⟨b, 0, none⟩), .string nm] V fun e w' => ∃ eb a c, e = .returned (.pointer (some ⟨eb, 0, none⟩)) ∧ w'.cell? ⟨eb, 0, none⟩ = some (.slice a (flen D nm) c) ∧ V.grownBy w' none) := fun V hV => by
    have RV := R.keep hV
    exact seen_any V b D.mb D.cv D.room D.fuse D.steps D.starts D.down D.fs D.clock nm (fun f => f.seen.length) RV.blk RV.map RV.sizes
  have HR := hide R
  have HF := hide F
  clear R L hroom
  by_cases hne : n = flen D nm
  · subst hne
    go_enter Tryz.func133, Tryz.ntmps133
    go_wp2_with (first
      | (go_at_call 69; refine Calls.mono M.out ?_; rintro e w0 ⟨rfl, rfl⟩)
      | (go_at_call 71; refine Calls.mono HLk.out ?_; rintro e w1 ⟨rfl, hg1⟩; have HG1 := hide hg1; clear hg1)
      | (go_at_call 39; refine Calls.mono (HS.out w1 HG1.out) ?_; rintro e w2 ⟨eb, a, c, rfl, hc2, hg2⟩; have HG2 := hide (grown_trans' HG1.out hg2); clear hg2)
      | (go_at_call 79; refine (size_of w2 eb 0 a _ c hc2).mono ?_; rintro e w3 ⟨rfl, rfl⟩)
      | (go_at_call 70; refine Calls.mono (endStep_moves w2 base b D who (HR.out.keep HG2.out) HF.out.f0 HF.out.f1 HF.out.s0 HF.out.s1) ?_; rintro e w4 ⟨rfl, hR4⟩; have HR4 := hide hR4; clear hR4))
    go_ret
    exact ⟨rfl, D, who, .inl ⟨rfl, rfl⟩, ((RM.start HR.out).grown HG2.out).trans HR4.out⟩
  · have hI : ¬ (n : Int) = (flen D nm : Int) := by omega
    have HN := hide hne
    go_enter Tryz.func133, Tryz.ntmps133
    go_wp2_with (first
      | (go_at_call 69; refine Calls.mono M.out ?_; rintro e w0 ⟨rfl, rfl⟩)
      | (go_at_call 71; refine Calls.mono HLk.out ?_; rintro e w1 ⟨rfl, hg1⟩; have HG1 := hide hg1; clear hg1)
      | (go_at_call 39; refine Calls.mono (HS.out w1 HG1.out) ?_; rintro e w2 ⟨eb, a, c, rfl, hc2, hg2⟩; have HG2 := hide (grown_trans' HG1.out hg2); clear hg2)
      | (go_at_call 79; refine (size_of w2 eb 0 a _ c hc2).mono ?_; rintro e w3 ⟨rfl, rfl⟩)
      | (go_at_call 114; refine Calls.mono (resize_anyM w2 base b D who (HR.out.keep HG2.out) nm n hend HF.out.lens (by have := HF.out.chn; omega)) ?_; rintro e w3 ⟨rfl, f1, Dx, v', cv', who', hE, hR3⟩; have HE := hide hE; have HR3 := hide hR3; clear hE hR3)
      | (go_at_call 70; refine Calls.mono (endStep_moves w3 base b _ who' HR3.out.rep (by rw [(Entered.facts HE.out).1]; exact HF.out.f0) (by rw [(Entered.facts HE.out).1]; exact HF.out.f1) (by rw [(Entered.facts HE.out).2.1]; exact HF.out.s0) (by rw [(Entered.facts HE.out).2.1]; exact HF.out.s1)) ?_; rintro e w4 ⟨rfl, hR4⟩; have HR4 := hide hR4; clear hR4))
    go_ret
    exact ⟨ret_int (by simp [ans, (Entered.facts HE.out).1]), _, who', .inr ⟨HN.out, f1, Dx, v', cv', HE.out, rfl⟩, ((RM.start HR.out).grown HG2.out).trans (HR3.out.trans HR4.out)⟩
end Go.Proofs.YteocmhbllckpjaaGreat
