/- What is kept of a file: resized, laid into; a change taken. -/
import Derived.Test.YtfcgjedanhmpiaaV2
import Derived.Deep.Cut
import Derived.Deep.CutRange
import Derived.Deep.RegionHeld3
import Derived.Deep.MidRow
import Derived.Deep.WholeRow
namespace Go.Proofs.Ytfcgjedanhmpiaa
open Go.ChangeShapes Go.WideShapes Go.ChangeAt Go.RowKit
set_option linter.unusedVariables false

/-- A file of another number of bytes; bytes laid into a file; a change taken. -/
def rsz (l : List UInt8) (n : Nat) : List UInt8 := if n ≤ l.length then l.take n else l ++ List.replicate (n - l.length) 0
def putL (l : List UInt8) (at_ : Nat) (d : List UInt8) : List UInt8 := if at_ < l.length then splice l at_ (d.take (l.length - at_)) else l
def takeL (l : List UInt8) (c : Ch) (k : Int) : List UInt8 := if k ≤ 0 then l else if c.sector = -1 then rsz l c.size.toNat else putL l (c.sector.toNat * 64) (c.data.take (arrN k))

theorem kresize (w : World) (base b : Nat) (D : DS) (who : Nat → Nat) (R : Rep w base b D who) (f : FL) (hf : f ∈ D.fs) (n : Nat) (hn : n ≤ 1048576) (hl : f.kept.length ≤ 1048576) :
    Calls Try.prog 61 #[.pointer (some ⟨f.eb, 1, none⟩), .int .i64 n] w fun e w' => e = .returned (.tuple #[]) ∧ Only (f.eb :: f.kv.ownBlock.toList) w w' ∧
      ∃ v' who', Rep w' base b { D with fs := upd D.fs f.born fun x => { x with kv := v', kept := rsz f.kept n } } who' := by
  have hek : ∀ g, f.kv.ownBlock = some g → g ≠ f.eb := fun g hg e => by have h1 := R.wk f hf _ hg; have h2 := R.we f hf; rw [e] at h1; omega
  by_cases h : n ≤ f.kept.length
  · refine (file_resize_less w f.eb 1 #[f.sv, f.kv] 103 base f.kv f.kept n (R.ent f hf) rfl (R.okv f hf) h hl).mono ?_
    rintro e w' ⟨rfl, v', ho, hv, rfl⟩
    have hO : Only (f.eb :: f.kv.ownBlock.toList) w (w.setCell ⟨f.eb, 1, none⟩ v') := (Only.setCell w ⟨f.eb, 1, none⟩ v').mono (by simp)
    have R' := R.setK hf v' (rsz f.kept n) (fun g hg => .inl (hv g hg)) hO ((R.ent f hf).set 1 v') (by
      unfold rsz
      rw [if_pos h]
      exact ownsRow_only ho (Only.setCell w ⟨f.eb, 1, none⟩ v') (fun k hk => by have := hek k (hv k hk); simp; exact this))
    exact ⟨rfl, hO, v', _, R'⟩
  · refine (file_resize_more w f.eb 1 #[f.sv, f.kv] 103 base f.kv f.kept n (R.ent f hf) rfl (R.okv f hf) (fun e => hek _ e rfl) (by omega) hn R.base_le).mono ?_
    rintro e w' ⟨rfl, v', w2, hS1, hS2, ⟨g, hvg, hgg⟩, rfl⟩
    have hne : f.eb ≠ g := fun e => by
      rcases hgg with h | h
      · exact hek _ h e.symm
      · have := (R.ent f hf).lt; omega
    have hO1 : Only (f.eb :: f.kv.ownBlock.toList) w (w2.setCell ⟨f.eb, 1, none⟩ v') := ((Only.of_grown hS2).mono (fun j hj => List.mem_cons_of_mem _ hj)).trans ((Only.setCell _ _ _).mono (by simp))
    have hB2 : Blk w2 f.eb #[f.sv, f.kv] 103 := (Only.of_grown hS2).blk (R.ent f hf) (fun hm => hek f.eb (by simpa using hm) rfl)
    have R1 := R.setK hf v' (rsz f.kept n) (fun k hk => by rw [hvg] at hk; cases hk; exact hgg) hO1 (hB2.set 1 v') (by
      unfold rsz
      rw [if_neg h]
      exact ownsRow_only hS1 (Only.setCell w2 ⟨f.eb, 1, none⟩ v') (fun k hk => by rw [hvg] at hk; cases hk; simp; omega))
    exact ⟨rfl, hO1, v', _, R1⟩

theorem kput (w : World) (base b : Nat) (D : DS) (who : Nat → Nat) (R : Rep w base b D who) (f : FL) (hf : f ∈ D.fs) (d : List UInt8) (at_ : Nat) (ad : Addr) (dc : Nat) (hl : f.kept.length ≤ 1048576)
    (hd : ∀ j u, (bcs d)[j]? = some u → w.cell? (ad.add j) = some u) :
    Calls Try.prog 62 #[.pointer (some ⟨f.eb, 1, none⟩), .int .i64 at_, .slice (some ad) d.length dc] w fun e w' => e = .returned (.tuple #[]) ∧ Only (f.eb :: f.kv.ownBlock.toList) w w' ∧
      ∃ v' who', Rep w' base b { D with fs := upd D.fs f.born fun x => { x with kv := v', kept := putL f.kept at_ d } } who' := by
  have hek : ∀ g, f.kv.ownBlock = some g → g ≠ f.eb := fun g hg e => by have h1 := R.wk f hf _ hg; have h2 := R.we f hf; rw [e] at h1; omega
  by_cases h : at_ < f.kept.length
  · refine (put_at w f.eb 1 #[f.sv, f.kv] 103 base f.kv f.kept d at_ ad dc (R.ent f hf) rfl (R.okv f hf) h hl hd).mono ?_
    rintro e w' ⟨rfl, ho, hg⟩
    have hO : Only (f.eb :: f.kv.ownBlock.toList) w w' := (Only.of_grown hg).mono (fun j hj => List.mem_cons_of_mem _ hj)
    have hB : Blk w' f.eb #[f.sv, f.kv] 103 := (Only.of_grown hg).blk (R.ent f hf) (fun hm => hek f.eb (by simpa using hm) rfl)
    have R' := R.setK hf f.kv (putL f.kept at_ d) (fun g hg => .inl hg) hO hB (by unfold putL; rw [if_pos h]; exact ho)
    exact ⟨rfl, hO, f.kv, _, R'⟩
  · refine (put_out w f.eb 1 #[f.sv, f.kv] 103 base f.kv f.kept at_ _ (R.ent f hf) rfl (R.okv f hf) (by omega)).mono ?_
    rintro e w' ⟨rfl, rfl⟩
    refine ⟨rfl, Only.refl _ _, f.kv, who, ?_⟩
    rw [upd_self R.nodup hf _ (by unfold putL; rw [if_neg h])]
    exact R

theorem chg_cell (w : World) (c : Ch) (h64 : c.data.length = 64) : Blk (w.alloc (.cells c.cells.toArray 100)) w.heap.size c.cells.toArray 100 := alloc_new _ _
theorem chg_get (c : Ch) : c.cells.toArray[1]? = some (.int .i64 c.sector) ∧ c.cells.toArray[2]? = some (.int .i64 c.size) ∧ c.cells.toArray[0]? = some (.string c.name) ∧ ∀ j u, (bcs c.data)[j]? = some u → c.cells.toArray[3 + j]? = some u := by
  refine ⟨rfl, rfl, rfl, fun j u h => ?_⟩
  simp only [Ch.cells, chg, List.getElem?_toArray]
  rw [List.getElem?_append_right (by simp)]
  simpa using h
theorem Rep.alloc {w : World} {base b : Nat} {D : DS} {who : Nat → Nat} (R : Rep w base b D who) (o : Obj) : Rep (w.alloc o) base b D who := R.keep (World.grownBy_alloc w o none)
theorem below_alloc (w : World) (o : Obj) {base : Nat} (h : base ≤ w.heap.size) : Below base w (w.alloc o) := (Below.refl _ _).alloc h _

theorem Rep.only_below {w w' : World} {base b : Nat} {D : DS} {who : Nat → Nat} (R : Rep w base b D who) {f : FL} (hf : f ∈ D.fs) (h : Only (f.eb :: f.kv.ownBlock.toList) w w') : Below base w w' :=
  h.below R.base_le (fun j hj => by
    rcases List.mem_cons.1 hj with rfl | hj
    · exact R.lowe f hf
    · exact (own_lt (R.okv f hf) j (by simpa using hj)).1)
theorem Rep.far {w : World} {base b : Nat} {D : DS} {who : Nat → Nat} (R : Rep w base b D who) {f : FL} (hf : f ∈ D.fs) {k : Nat} (hk : w.heap.size ≤ k) : k ∉ f.eb :: f.kv.ownBlock.toList := fun hm => by
  rcases List.mem_cons.1 hm with rfl | hm
  · have := (R.ent f hf).lt; omega
  · have := (own_lt (R.okv f hf) k (by simpa using hm)).2; omega

theorem arr42 : Try.prog.underlying 97 = some (.array 64 5) := by kernel_rfl
theorem arr42l : Try.prog.arrayLen 97 = 64 := by simp [Program.arrayLen]
theorem arr42e : Try.prog.elem 97 = 5 := by simp [Program.elem]
theorem size5d (W : World) : (sizeOf 5).run Try.prog W = .ok 1 W := by
  have h : (Try.prog.info? 5).map (·.size) = some 1 := bytes_size
  cases hq : Try.prog.info? 5 with
  | none => simp [hq] at h
  | some i => simp [sizeOf, typeInfo, hq] at h ⊢; exact h
theorem cut64 (W : World) (g o n : Nat) (h : n ≤ 64) : (Instr.sliceAt 97 (.pointer (some ⟨g, o, none⟩)) none (some (.int .i64 (n : Int))) none).run Try.prog W = .ok (.slice (some ⟨g, o, none⟩) n 64) W := by
  rw [run_sliceAt_array_h W 97 ⟨g, o, none⟩ (by rw [arr42l, arr42e]; exact arr42) .i64 _ (by omega) (by rw [arr42l]; omega), arr42e, size5d, arr42l]
  simp only [Result.andThen, slicedAt]
  rw [if_neg (by omega)]
  have e : (⟨g, o, none⟩ : Addr).add (0 * 1) = ⟨g, o, none⟩ := by unfold Addr.add; split <;> simp_all
  rw [e]
  congr 2

set_option maxHeartbeats 2000000 in
set_option maxRecDepth 10000 in
theorem take_any (w : World) (base b : Nat) (D : DS) (who : Nat → Nat) (R : Rep w base b D who) (f : FL) (hf : f ∈ D.fs) (c : Ch) (h64 : c.data.length = 64) (hsec : c.sector = -1 ∨ (0 ≤ c.sector ∧ c.sector ≤ 16384)) (hsz : 0 ≤ c.size ∧ c.size ≤ 1048576)
    (k : Int) (hk : k ≤ 9223372036854775807) (hl : f.kept.length ≤ 1048576) :
    Calls Try.prog 48 #[.pointer (some ⟨f.eb, 1, none⟩), .agg c.cells.toArray, .int .i64 k] w fun e w' => e = .returned (.tuple #[]) ∧ Only (f.eb :: f.kv.ownBlock.toList) w w' ∧
      ∃ v' who', Rep w' base b { D with fs := upd D.fs f.born fun x => { x with kv := v', kept := takeL f.kept c k } } who' := by
  have HR := hide (R.alloc (.cells c.cells.toArray 100))
  have HB0 := hide (Only.alloc w (.cells c.cells.toArray 100) (f.eb :: f.kv.ownBlock.toList))
  have HFar := hide (R.far hf (Nat.le_refl _))
  have HC := hide (chg_cell w c h64)
  have HF := hide hf
  have HN := hide R.nodup
  obtain ⟨g1, g2, g0, gd⟩ := chg_get c
  have c1 : (w.alloc (.cells c.cells.toArray 100)).cell? ⟨w.heap.size, 1, none⟩ = some (.int .i64 c.sector) := ((chg_cell w c h64).cell 1).trans g1
  have c2 : (w.alloc (.cells c.cells.toArray 100)).cell? ⟨w.heap.size, 2, none⟩ = some (.int .i64 c.size) := ((chg_cell w c h64).cell 2).trans g2
  have HD : Hid (∀ V : World, V.heap[w.heap.size]? = some (.cells c.cells.toArray 100 (0, 0)) → ∀ j u, (bcs c.data)[j]? = some u → V.cell? ⟨w.heap.size, 3 + j, none⟩ = some u) := fun V hV j u hj => by
    rw [Blk.cell (show Blk V w.heap.size c.cells.toArray 100 from hV)]; exact gd j u hj
  have H64 := hide h64
  have HL := hide hl
  by_cases hk0 : k ≤ 0
  · clear R g1 g2 g0 gd h64 c1 c2 hf
    go_enter Try.func48, Try.ntmps48
    go_wp2
    go_end0
    refine ⟨rfl, HB0.out, f.kv, who, ?_⟩
    rw [upd_self HN.out HF.out _ (by unfold takeL; rw [if_pos hk0])]
    exact HR.out
  · by_cases hs : c.sector = -1
    · have HK : Hid (∀ V, Rep V base b D who → Calls Try.prog 61 #[.pointer (some ⟨f.eb, 1, none⟩), .int .i64 c.size] V fun e w' => e = .returned (.tuple #[]) ∧ Only (f.eb :: f.kv.ownBlock.toList) V w' ∧ ∃ v' who', Rep w' base b { D with fs := upd D.fs f.born fun x => { x with kv := v', kept := takeL f.kept c k } } who') := fun V hV => by
        have := kresize V base b D who hV f hf c.size.toNat (by omega) hl
        rw [show ((c.size.toNat : Nat) : Int) = c.size by omega] at this
        refine this.mono ?_
        rintro e w' ⟨h1, h2, v', who', h3⟩
        refine ⟨h1, h2, v', who', ?_⟩
        rw [show takeL f.kept c k = rsz f.kept c.size.toNat by unfold takeL; rw [if_neg hk0, if_pos hs]]
        exact h3
      rw [hs] at c1
      clear R g1 g2 g0 gd h64 hf hs hsec hsz
      go_enter Try.func48, Try.ntmps48
      go_upto_region 4 with fail
      refine wp_region_held_drew (S := fun V => V.cell? ⟨w.heap.size, 2, none⟩ = some (.int .i64 c.size) ∧ True) (by kernel_rfl) ⟨c2, trivial⟩ ?_
      intro hHeld
      refine wpAnyH_take (i := 0) (v := .pointer (some ⟨f.eb, 1, none⟩)) rfl (by kernel_rfl) (by kernel_rfl) (by kernel_rfl) (fun _ _ _ h => h) (Or.inl ⟨by rfl, fun V hV => by (obtain ⟨f1, f2⟩ := hV; go_simp)⟩) hHeld ?_
      try simp only [Act.put, List.getElem_toArray, List.getElem_cons_zero, List.setIfInBounds_toArray, List.set_cons_zero, List.set_cons_succ]
      refine wpAnyH_take (i := 1) (v := .pointer (some ⟨f.eb, 1, none⟩)) rfl (by kernel_rfl) (by kernel_rfl) (by kernel_rfl) (fun _ _ _ h => h) (Or.inl ⟨by rfl, fun V hV => by (obtain ⟨f1, f2⟩ := hV; go_simp)⟩) hHeld ?_
      try simp only [Act.put, List.getElem_toArray, List.getElem_cons_succ, List.getElem_cons_zero, List.setIfInBounds_toArray, List.set_cons_zero, List.set_cons_succ]
      refine wpAnyH_take (i := 2) (v := .pointer (some ⟨f.eb, 1, none⟩)) rfl (by kernel_rfl) (by kernel_rfl) (by kernel_rfl) (fun _ _ _ h => h) (Or.inl ⟨by rfl, fun V hV => by (obtain ⟨f1, f2⟩ := hV; go_simp)⟩) hHeld ?_
      try simp only [Act.put, List.getElem_toArray, List.getElem_cons_succ, List.getElem_cons_zero, List.setIfInBounds_toArray, List.set_cons_zero, List.set_cons_succ]
      refine wpAnyH_take (i := 3) (v := .pointer (some ⟨w.heap.size, 2, none⟩)) rfl (by kernel_rfl) (by kernel_rfl) (by kernel_rfl) (fun _ _ _ h => h) (Or.inl ⟨by rfl, fun V hV => by (obtain ⟨f1, f2⟩ := hV; go_simp)⟩) hHeld ?_
      try simp only [Act.put, List.getElem_toArray, List.getElem_cons_succ, List.getElem_cons_zero, List.setIfInBounds_toArray, List.set_cons_zero, List.set_cons_succ]
      refine wpAnyH_take (i := 4) (v := .int .i64 c.size) rfl (by kernel_rfl) (by kernel_rfl) (by kernel_rfl) (fun _ _ _ h => h) (Or.inl ⟨by rfl, fun V hV => by (obtain ⟨f1, f2⟩ := hV; go_simp)⟩) hHeld ?_
      try simp only [Act.put, List.getElem_toArray, List.getElem_cons_succ, List.getElem_cons_zero, List.setIfInBounds_toArray, List.set_cons_zero, List.set_cons_succ]
      refine wpAnyH_ready (rs := [5]) (by kernel_rfl) (by simp) ?_
      refine AllReadyH.cons rfl (fun K hK => ?_) AllReadyH.nil
      go_simp
      go_at_call 61; refine Calls.mono (HK.out _ HR.out.drew) ?_; rintro e w3 ⟨rfl, hb3, v3, who3, R3⟩; have HX := hide hb3; have HR3 := hide R3; clear hb3 R3
      go_wp2_with fail
      refine hK.out _ _ ⟨?_, trivial⟩ (fun hHeld => ?_)
      · rw [World.cell?_of_block (HX.out.block w.heap.size (by simp) HFar.out)]
        exact c2
      · clear hK K
        refine wpAnyH_done (by kernel_rfl) ?_ _
        go_wp2_with fail
        go_end0
        exact ⟨rfl, HB0.out.trans ((Only.drew _ _).trans HX.out), v3, who3, HR3.out⟩
    · have hs0 : 0 ≤ c.sector ∧ c.sector ≤ 16384 := by rcases hsec with h | h; exact absurd h hs; exact h
      have hk1 : 1 ≤ k := by omega
      have ha := arrN_le hk1
      have hdl : (c.data.take (arrN k)).length = arrN k := by rw [List.length_take]; omega
      have HA := hide (arrived_any k hk1 hk)
      have HK : Hid (∀ V dc, Rep V base b D who → V.heap[w.heap.size]? = some (.cells c.cells.toArray 100 (0, 0)) → Calls Try.prog 62 #[.pointer (some ⟨f.eb, 1, none⟩), .int .i64 (c.sector * 64), .slice (some ⟨w.heap.size, 3, none⟩) (arrN k) dc] V fun e w' => e = .returned (.tuple #[]) ∧ Only (f.eb :: f.kv.ownBlock.toList) V w' ∧ ∃ v' who', Rep w' base b { D with fs := upd D.fs f.born fun x => { x with kv := v', kept := takeL f.kept c k } } who') := fun V dc hV hB => by
        have := kput V base b D who hV f hf (c.data.take (arrN k)) (c.sector.toNat * 64) ⟨w.heap.size, 3, none⟩ dc hl (fun j u hj => by
          have e : (⟨w.heap.size, 3, none⟩ : Addr).add j = ⟨w.heap.size, 3 + j, none⟩ := by unfold Addr.add; split <;> simp_all
          rw [e]
          refine HD.out V hB j u ?_
          rw [bcs_take, List.getElem?_take] at hj
          split at hj
          · exact hj
          · cases hj)
        rw [hdl, show ((c.sector.toNat * 64 : Nat) : Int) = c.sector * 64 by omega] at this
        refine this.mono ?_
        rintro e w' ⟨h1, h2, v', who', h3⟩
        refine ⟨h1, h2, v', who', ?_⟩
        rw [show takeL f.kept c k = putL f.kept (c.sector.toNat * 64) (c.data.take (arrN k)) by unfold takeL; rw [if_neg hk0, if_neg hs]]
        exact h3
      have hw : IntKind.i64.wrap (c.sector * 64) = c.sector * 64 := by rw [IntKind.wrap_i64]; omega
      have hcut : ∀ V : World, (Instr.sliceAt 97 (.pointer (some ⟨w.heap.size, 3, none⟩)) none (some (.int .i64 (arrN k : Int))) none).run Try.prog V = .ok (.slice (some ⟨w.heap.size, 3, none⟩) (arrN k) 64) V := fun V => cut64 V w.heap.size 3 (arrN k) ha.2
      clear R g1 g2 g0 gd h64 hf hsec hsz hs0 ha hdl
      go_enter Try.func48, Try.ntmps48
      go_upto_region 1 with fail
      refine wp_region_held_drew (S := fun V => V.cell? ⟨w.heap.size, 1, none⟩ = some (.int .i64 c.sector) ∧ True) (by kernel_rfl) ⟨c1, trivial⟩ ?_
      intro hHeld
      refine wpAnyH_take (i := 0) (v := .pointer (some ⟨f.eb, 1, none⟩)) rfl (by kernel_rfl) (by kernel_rfl) (by kernel_rfl) (fun _ _ _ h => h) (Or.inl ⟨by rfl, fun V hV => by (obtain ⟨f1, f2⟩ := hV; go_simp)⟩) hHeld ?_
      try simp only [Act.put, List.getElem_toArray, List.getElem_cons_zero, List.setIfInBounds_toArray, List.set_cons_zero, List.set_cons_succ]
      refine wpAnyH_take (i := 1) (v := .pointer (some ⟨f.eb, 1, none⟩)) rfl (by kernel_rfl) (by kernel_rfl) (by kernel_rfl) (fun _ _ _ h => h) (Or.inl ⟨by rfl, fun V hV => by (obtain ⟨f1, f2⟩ := hV; go_simp)⟩) hHeld ?_
      try simp only [Act.put, List.getElem_toArray, List.getElem_cons_succ, List.getElem_cons_zero, List.setIfInBounds_toArray, List.set_cons_zero, List.set_cons_succ]
      refine wpAnyH_take (i := 2) (v := .pointer (some ⟨f.eb, 1, none⟩)) rfl (by kernel_rfl) (by kernel_rfl) (by kernel_rfl) (fun _ _ _ h => h) (Or.inl ⟨by rfl, fun V hV => by (obtain ⟨f1, f2⟩ := hV; go_simp)⟩) hHeld ?_
      try simp only [Act.put, List.getElem_toArray, List.getElem_cons_succ, List.getElem_cons_zero, List.setIfInBounds_toArray, List.set_cons_zero, List.set_cons_succ]
      refine wpAnyH_take (i := 3) (v := .pointer (some ⟨w.heap.size, 1, none⟩)) rfl (by kernel_rfl) (by kernel_rfl) (by kernel_rfl) (fun _ _ _ h => h) (Or.inl ⟨by rfl, fun V hV => by (obtain ⟨f1, f2⟩ := hV; go_simp)⟩) hHeld ?_
      try simp only [Act.put, List.getElem_toArray, List.getElem_cons_succ, List.getElem_cons_zero, List.setIfInBounds_toArray, List.set_cons_zero, List.set_cons_succ]
      refine wpAnyH_take (i := 4) (v := .int .i64 c.sector) rfl (by kernel_rfl) (by kernel_rfl) (by kernel_rfl) (fun _ _ _ h => h) (Or.inl ⟨by rfl, fun V hV => by (obtain ⟨f1, f2⟩ := hV; go_simp)⟩) hHeld ?_
      try simp only [Act.put, List.getElem_toArray, List.getElem_cons_succ, List.getElem_cons_zero, List.setIfInBounds_toArray, List.set_cons_zero, List.set_cons_succ]
      refine wpAnyH_take (i := 5) (v := .int .i64 (c.sector * 64)) rfl (by kernel_rfl) (by kernel_rfl) (by kernel_rfl) (fun _ _ _ h => h) (Or.inl ⟨by rfl, fun V hV => by (obtain ⟨f1, f2⟩ := hV; go_simp)⟩) hHeld ?_
      try simp only [Act.put, List.getElem_toArray, List.getElem_cons_succ, List.getElem_cons_zero, List.setIfInBounds_toArray, List.set_cons_zero, List.set_cons_succ]
      refine wpAnyH_take (i := 6) (v := .pointer (some ⟨w.heap.size, 3, none⟩)) rfl (by kernel_rfl) (by kernel_rfl) (by kernel_rfl) (fun _ _ _ h => h) (Or.inl ⟨by rfl, fun V hV => by (obtain ⟨f1, f2⟩ := hV; go_simp)⟩) hHeld ?_
      try simp only [Act.put, List.getElem_toArray, List.getElem_cons_succ, List.getElem_cons_zero, List.setIfInBounds_toArray, List.set_cons_zero, List.set_cons_succ]
      refine wpAnyH_take (i := 7) (v := .int .i64 k) rfl (by kernel_rfl) (by kernel_rfl) (by kernel_rfl) (fun _ _ _ h => h) (Or.inl ⟨by rfl, fun V hV => by (obtain ⟨f1, f2⟩ := hV; go_simp)⟩) hHeld ?_
      try simp only [Act.put, List.getElem_toArray, List.getElem_cons_succ, List.getElem_cons_zero, List.setIfInBounds_toArray, List.set_cons_zero, List.set_cons_succ]
      refine wpAnyH_ready (rs := [8]) (by kernel_rfl) (by simp) ?_
      refine AllReadyH.cons rfl (fun K hK => ?_) AllReadyH.nil
      go_simp
      go_at_call 63; refine Calls.mono (HA.out _) ?_; rintro e w3 ⟨rfl, rfl⟩
      go_wp2_with fail
      refine hK.out _ _ ⟨c1, trivial⟩ (fun hHeld => ?_)
      clear hK K
      try simp only [Act.put, List.getElem_toArray, List.getElem_cons_succ, List.getElem_cons_zero, List.setIfInBounds_toArray, List.set_cons_zero, List.set_cons_succ]
      refine wpAnyH_take (i := 9) (v := .slice (some ⟨w.heap.size, 3, none⟩) (arrN k) 64) rfl (by kernel_rfl) (by kernel_rfl) (by kernel_rfl) (fun _ _ _ h => h) (Or.inl ⟨by rfl, fun V hV => by (obtain ⟨f1, f2⟩ := hV; go_simp)⟩) hHeld ?_
      try simp only [Act.put, List.getElem_toArray, List.getElem_cons_succ, List.getElem_cons_zero, List.setIfInBounds_toArray, List.set_cons_zero, List.set_cons_succ]
      refine wpAnyH_ready (rs := [10]) (by kernel_rfl) (by simp) ?_
      refine AllReadyH.cons rfl (fun K hK => ?_) AllReadyH.nil
      go_simp
      go_at_call 62; refine Calls.mono (HK.out _ _ HR.out.drew HC.out) ?_; rintro e w3 ⟨rfl, hb3, v3, who3, R3⟩; have HX := hide hb3; have HR3 := hide R3; clear hb3 R3
      go_wp2_with fail
      refine hK.out _ _ ⟨?_, trivial⟩ (fun hHeld => ?_)
      · rw [World.cell?_of_block (HX.out.block w.heap.size (by simp) HFar.out)]
        exact c1
      · clear hK K
        refine wpAnyH_done (by kernel_rfl) ?_ _
        go_wp2_with fail
        go_end0
        exact ⟨rfl, HB0.out.trans ((Only.drew _ _).trans HX.out), v3, who3, HR3.out⟩
end Go.Proofs.Ytfcgjedanhmpiaa
