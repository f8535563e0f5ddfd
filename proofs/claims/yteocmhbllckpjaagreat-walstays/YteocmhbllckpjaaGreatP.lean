/- A new disk; what is read of a file. -/
import Derived.Test.YteocmhbllckpjaaGreatO
namespace Go.Proofs.YteocmhbllckpjaaGreat
open Go.ChangeShapes Go.WideShapes Go.ChangeAt Go.RowKit
open Go.ChangeMaps (setBlock)
set_option linter.unusedVariables false

def DS.fresh (mb : Nat) (room : Int) : DS := ⟨mb, .slice none 0 0, [], 0, [], room, 0, 0, 0, false⟩

theorem new_any (w : World) (room : Int) (h0 : 0 ≤ room) :
    Calls Tryz.prog 8 #[.int .i64 room] w fun e w' => e = .returned (.pointer (some ⟨w.heap.size + 1, 0, none⟩)) ∧ w.grownBy w' none ∧ ∃ who, Rep w' w.heap.size (w.heap.size + 1) (DS.fresh w.heap.size room) who := by
  have hmm := @run_makeMap Tryz.prog
  have hmax : max room 0 = room := by omega
  have hmax' : max 0 room = room := by omega
  go_enter Tryz.func8, Tryz.ntmps8
  go_wp2
  go_ret
  obtain ⟨h1, h2, h3, h4⟩ := two_alloc w (.map #[] 0) (.cells #[.map (some w.heap.size), .slice none 0 0, .int .i64 room, .int .i64 0, .int .i64 0, .int .i64 0, .bool false] 76)
  refine ⟨rfl, h1, fun k => if k = w.heap.size + 1 then 0 else 1, ?_⟩
  exact
    { blk := h4, map := h3, born := (by simp [DS.fresh]), nodup := (by simp [DS.fresh]), ent := (by simp [DS.fresh]), osv := (by simp [DS.fresh]), okv := (by simp [DS.fresh]), ochs := World.ownsRow_nil _ _ _ _
      c64 := (by simp [DS.fresh]), lowb := (by omega), lowm := Nat.le_refl _, lowe := (by simp [DS.fresh]), wb := (by simp), wm := (by simp [DS.fresh]), wc := (by simp [DS.fresh, Value.ownBlock])
      we := (by simp [DS.fresh]), ws := (by simp [DS.fresh]), wk := (by simp [DS.fresh]) }

def bstr (l : List UInt8) : ByteArray := ⟨l.toArray⟩
def seenOf (D : DS) (nm : ByteArray) : List UInt8 := ((look D.fs nm).map fun f => f.seen).getD []

theorem strOfNums_bstr (l : List UInt8) : strOfNums (l.map fun b => (b.toNat : Int)) = bstr l := by
  simp [strOfNums, bstr, Function.comp_def]

theorem seen_own (w : World) (base b : Nat) (D : DS) (who : Nat → Nat) (R : Rep w base b D who) (nm : ByteArray) :
    Calls Tryz.prog 39 #[.pointer (some ⟨b, 0, none⟩), .string nm] w fun e w' => ∃ eb v, e = .returned (.pointer (some ⟨eb, 0, none⟩)) ∧ w'.cell? ⟨eb, 0, none⟩ = some v ∧ Own w' base v (seenOf D nm) ∧ w.grownBy w' none := by
  cases hl : look D.fs nm with
  | none =>
    refine (seen_miss w b D.mb D.cv D.room D.fuse D.steps D.starts D.down D.fs D.clock nm R.blk R.map hl).mono ?_
    rintro e w' ⟨rfl, rfl⟩
    refine ⟨_, .slice none 0 0, rfl, by rw [cell_of_row _ _ _ _ _ _ (alloc_new _ _)]; simp, ?_, World.grownBy_alloc _ _ _⟩
    simp only [seenOf, hl]
    exact World.ownsRow_nil _ _ _ _
  | some f =>
    refine (seen_hit w b D.mb D.cv D.room D.fuse D.steps D.starts D.down D.fs D.clock nm f R.blk R.map hl).mono ?_
    rintro e w' ⟨rfl, rfl⟩
    have hf := List.mem_of_find?_eq_some hl
    refine ⟨_, f.sv, rfl, by rw [(R.ent f hf).cell 0]; rfl, ?_, ⟨rfl, rfl, rfl, Nat.le_refl _, fun _ _ _ => rfl⟩⟩
    simp only [seenOf, hl]
    exact R.osv f hf

theorem conv_at (w : World) (base g cap : Nat) (l : List UInt8) (a' n' : Nat) (hown : Own w base (.slice (some ⟨g, 0, none⟩) l.length cap) l) (h : a' + n' ≤ l.length) (c : Nat) :
    (convert 62 9 (.slice (some ⟨g, a', none⟩) n' c)).run Tryz.prog w = .ok (.string (bstr ((l.drop a').take n'))) w := by
  have hcell : ∀ i, i < n' → w.cell? ⟨g, a' + i, none⟩ = some (.int .u8 ((((l.drop a').take n').map fun b => (b.toNat : Int)).getD i 0)) := fun i hi => by
    have hlt : a' + i < l.length := by omega
    have h1 : (bcs l)[a' + i]? = some (.int .u8 ((l[a' + i]).toNat : Int)) := by
      simp [bcs, hlt]
    have := hown.cells (g := g) rfl _ _ h1
    rw [Addr.add_lit, Nat.zero_add] at this
    rw [this]
    congr 2
    simp [List.getD, List.getElem?_drop, hi, hlt]
  have hcv := run_convert_bytes_arg (P := Tryz.prog) w 62 5 Tryz.underlying62 Tryz.underlying5 g a' n' c (((l.drop a').take n').map fun b => (b.toNat : Int)) (by simp; omega) hcell 9 Tryz.underlying9
  rw [strOfNums_bstr] at hcv
  exact hcv

set_option maxRecDepth 100000 in
theorem read_in (w : World) (base eb : Nat) (v : Value) (l : List UInt8) (at_ n : Nat) (hc : w.cell? ⟨eb, 0, none⟩ = some v) (hown : Own w base v l) (hl : l.length ≤ 1048576) (hn : 0 < n) (hin : at_ + n ≤ l.length) :
    Calls Tryz.prog 40 #[.pointer (some ⟨eb, 0, none⟩), .int .i64 at_, .int .i64 n] w fun e w' => e = .returned (.string (bstr ((l.drop at_).take n))) ∧ w = w' := by
  rcases hown.2 with ⟨rfl, hz⟩ | ⟨g, cap, cur, rfl, hbg, hg, hnc, hcm, hcs, htake⟩
  · omega
  · have hcv := fun c => conv_at w base g cap l at_ n hown hin c
    generalize bstr ((l.drop at_).take n) = RES at hcv ⊢
    have h1 : ¬ (l.length : Int) < (at_ : Int) := by omega
    have h2 : ¬ (l.length : Int) - (at_ : Int) < (n : Int) := by omega
    have h3 : (at_ : Int) ≤ (at_ : Int) + (n : Int) := by omega
    have h4 : (at_ : Int) + (n : Int) ≤ (cap : Int) := by omega
    have h5 : at_ < cap := by omega
    have h6 : ((at_ : Int) + (n : Int)).toNat - at_ = n := by omega
    clear hown htake hcs hg
    go_enter Tryz.func40, Tryz.ntmps40
    go_wp2_with (go_at_call 79; refine (size_of w eb 0 _ _ _ hc).mono ?_; rintro e w2 ⟨rfl, rfl⟩)
    go_ret
    exact ⟨rfl, rfl⟩

set_option maxRecDepth 100000 in
theorem read_whole (w : World) (base eb : Nat) (v : Value) (l : List UInt8) (hc : w.cell? ⟨eb, 0, none⟩ = some v) (hown : Own w base v l) (hl : l.length < 1048576) :
    Calls Tryz.prog 40 #[.pointer (some ⟨eb, 0, none⟩), .int .i64 0, .int .i64 1048576] w fun e w' => e = .returned (.string (bstr l)) ∧ w = w' := by
  rcases hown.2 with ⟨rfl, hz⟩ | ⟨g, cap, cur, rfl, hbg, hg, hnc, hcm, hcs, htake⟩
  · obtain rfl : l = [] := List.eq_nil_of_length_eq_zero hz
    have hcv := run_convert_bytes_nil (P := Tryz.prog) w 62 5 Tryz.underlying62 Tryz.underlying5 0 0 9 Tryz.underlying9
    clear hown
    go_enter Tryz.func40, Tryz.ntmps40
    go_wp2_with (go_at_call 79; refine (size_of w eb 0 none 0 0 hc).mono ?_; rintro e w2 ⟨rfl, rfl⟩)
    go_ret
    exact ⟨rfl, rfl⟩
  · have hcv := fun c => conv_at w base g cap l 0 l.length hown (by omega) c
    rw [List.drop_zero, List.take_of_length_le (Nat.le_refl _)] at hcv
    generalize bstr l = RES at hcv ⊢
    have h1 : (l.length : Int) < 1048576 := by omega
    have h4 : (l.length : Int) ≤ (cap : Int) := by omega
    have h7 : ¬ (l.length : Int) < 0 := by omega
    clear hown htake hcs hg
    go_enter Tryz.func40, Tryz.ntmps40
    go_wp2_with (go_at_call 79; refine (size_of w eb 0 _ _ _ hc).mono ?_; rintro e w2 ⟨rfl, rfl⟩)
    go_ret
    exact ⟨rfl, rfl⟩

end Go.Proofs.YteocmhbllckpjaaGreat
