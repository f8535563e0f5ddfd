/- The disk's map of files: a new entry; the sum over all files. -/
import Derived.Test.YtfcgjedanhmpiaaH
namespace Go.Proofs.Ytfcgjedanhmpiaa
open Go.ChangeShapes Go.WideShapes Go.ChangeAt Go.RowKit
open Go.ChangeMaps (setBlock)
set_option linter.unusedVariables false

theorem setBlock_same {w : World} {b : Nat} {o o' : Obj} (h : w.heap[b]? = some o) : (setBlock w b o').heap[b]? = some o' := (MapKept.heap_set h).1
theorem setBlock_other {w : World} {b k : Nat} (o' : Obj) (hk : k ≠ b) : (setBlock w b o').heap[k]? = w.heap[k]? := by
  show (w.heap.setIfInBounds b o')[k]? = _
  simp [Ne.symm hk]
theorem Only.setBlock (w : World) (b : Nat) (o' : Obj) : Only [b] w (setBlock w b o') :=
  ⟨rfl, rfl, rfl, by simp [ChangeMaps.setBlock], fun k hk hn => setBlock_other o' (by simpa using hn)⟩

theorem bytes_beq (nm : ByteArray) : (nm == nm) = true := by
  rw [MapKept.bytes_beq]

theorem look_snoc (fs : List FL) (nm : ByteArray) (f : FL) (hl : look fs nm = none) (hf : (nm == f.name) = true) : look (fs ++ [f]) nm = some f := by
  unfold look at *
  rw [List.find?_append, hl]
  simp [hf]

theorem entry_new (w : World) (b mb : Nat) (cv : Value) (room fuse steps starts : Int) (down : Bool) (fs : List FL) (clock : Nat) (nm : ByteArray) (hb : Blk w b (dcells mb cv room fuse steps starts down) 71)
    (hm : w.heap[mb]? = some (.map (ents fs) clock)) (hl : look fs nm = none) :
    Calls Try.prog 73 #[.pointer (some ⟨b, 0, none⟩), .string nm] w fun e w' => e = .returned (.pointer (some ⟨w.heap.size, 0, none⟩)) ∧
      w' = setBlock (w.alloc (.cells #[.slice none 0 0, .slice none 0 0] 103)) mb (.map (ents (fs ++ [(FL.fresh nm w.heap.size clock)])) (clock + 1)) := by
  have h0 := hb.cell 0
  simp at h0
  have hr := look_run w mb fs clock nm hm
  rw [hl] at hr
  simp only [Option.map_none] at hr
  have hm1 : (w.alloc (.cells #[.slice none 0 0, .slice none 0 0] 103)).heap[mb]? = some (.map (ents fs) clock) := (Below.heap_alloc _ _ _ (Array.getElem?_eq_some_iff.1 hm).1).trans hm
  have hne : b ≠ mb := by rintro rfl; have h1 : some (Obj.cells _ _ _) = some (Obj.map _ _) := hb.symm.trans hm; cases h1
  have hu := new_run (w.alloc (.cells #[.slice none 0 0, .slice none 0 0] 103)) mb fs clock nm w.heap.size hm1 hl
  obtain ⟨W, hW⟩ : ∃ W, W = setBlock (w.alloc (.cells #[.slice none 0 0, .slice none 0 0] 103)) mb (.map (ents (fs ++ [(FL.fresh nm w.heap.size clock)])) (clock + 1)) := ⟨_, rfl⟩
  rw [← hW] at hu
  have hmW : W.heap[mb]? = some (.map (ents (fs ++ [(FL.fresh nm w.heap.size clock)])) (clock + 1)) := by rw [hW]; exact setBlock_same hm1
  have hbW : Blk W b (dcells mb cv room fuse steps starts down) 71 := by
    rw [hW]; exact (setBlock_other _ hne).trans ((Below.heap_alloc _ _ _ hb.lt).trans hb)
  have h0W := hbW.cell 0
  simp at h0W
  have hr2 := look_run W mb _ _ nm hmW
  rw [look_snoc fs nm (FL.fresh nm w.heap.size clock) hl (bytes_beq nm)] at hr2
  simp only [Option.map_some] at hr2
  have HW : Hid (W = setBlock (w.alloc (.cells #[.slice none 0 0, .slice none 0 0] 103)) mb (.map (ents (fs ++ [(FL.fresh nm w.heap.size clock)])) (clock + 1))) := hW
  clear hb hm hl hW hmW hbW hm1
  go_enter Try.func73, Try.ntmps73
  go_wp2
  go_ret
  exact ⟨rfl, HW.out⟩

/-- The sizes of the files that have been handed out, added up. -/
def gsum (sz : FL → Nat) : List FL → Array Nat → Int
  | [], _ => 0
  | f :: l, seen => (if seen.contains f.born then (sz f : Int) else 0) + gsum sz l seen
def tot (sz : FL → Nat) (fs : List FL) : Nat := (fs.map sz).sum

theorem gsum_other (sz : FL → Nat) (seen : Array Nat) (b : Nat) : ∀ (fs : List FL), b ∉ fs.map (·.born) → gsum sz fs (seen.push b) = gsum sz fs seen
  | [], _ => rfl
  | x :: l, h => by
    have hx : (x.born == b) = false := by
      cases hc : x.born == b with
      | false => rfl
      | true => exact absurd (List.mem_cons.2 (Or.inl (beq_iff_eq.1 hc).symm)) h
    have ih := gsum_other sz seen b l (fun e => h (List.mem_cons.2 (Or.inr e)))
    simp only [gsum, contains_push, hx, Bool.or_false, ih]

theorem gsum_push (sz : FL → Nat) (seen : Array Nat) (f : FL) (hs : seen.contains f.born = false) : ∀ (fs : List FL), (fs.map (·.born)).Nodup → f ∈ fs → gsum sz fs (seen.push f.born) = gsum sz fs seen + sz f
  | x :: l, hn, he => by
    have hn' : x.born ∉ l.map (·.born) ∧ (l.map (·.born)).Nodup := List.nodup_cons.1 hn
    rcases List.mem_cons.1 he with rfl | h
    · simp only [gsum, contains_push, hs, beq_self_eq_true, Bool.or_true, if_true, Bool.false_eq_true, if_false, gsum_other sz seen f.born l hn'.1]
      omega
    · have hx : (x.born == f.born) = false := by
        cases hc : x.born == f.born with
        | false => rfl
        | true => exact absurd (by rw [beq_iff_eq.1 hc]; exact List.mem_map.2 ⟨f, h, rfl⟩) hn'.1
      simp only [gsum, contains_push, hx, Bool.or_false, gsum_push sz seen f hs l hn'.2 h]
      omega

theorem gsum_full (sz : FL → Nat) (seen : Array Nat) : ∀ (fs : List FL), (∀ x ∈ fs, seen.contains x.born = true) → gsum sz fs seen = tot sz fs
  | [], _ => rfl
  | x :: l, h => by
    simp only [gsum, tot, h x (List.mem_cons.2 (Or.inl rfl)), if_true, List.map_cons, List.sum_cons, gsum_full sz seen l (fun y hy => h y (List.mem_cons.2 (Or.inr hy)))]
    simp

theorem gsum_none (sz : FL → Nat) : ∀ (fs : List FL), gsum sz fs #[] = 0
  | [] => rfl
  | x :: l => by simp [gsum, gsum_none sz l]

theorem gsum_bd (sz : FL → Nat) (seen : Array Nat) : ∀ (fs : List FL), 0 ≤ gsum sz fs seen ∧ gsum sz fs seen ≤ tot sz fs
  | [] => ⟨Int.le_refl _, Int.le_refl _⟩
  | x :: l => by
    have ih := gsum_bd sz seen l
    simp only [gsum, tot, List.map_cons, List.sum_cons] at ih ⊢
    split <;> omega

theorem mem_ents {fs : List FL} {e : MapEntry} (h : e ∈ (ents fs).toList) : ∃ f ∈ fs, e = f.ent := by
  simp only [ents, List.toList_toArray, List.mem_map] at h
  obtain ⟨f, h1, h2⟩ := h
  exact ⟨f, h1, h2.symm⟩

theorem ret_int {k : IntKind} {a b : Int} (h : a = b) : Ending.returned (.int k a) = .returned (.int k b) := by rw [h]

set_option maxRecDepth 100000 in
theorem used_any (w : World) (b mb : Nat) (cv : Value) (room fuse steps starts : Int) (down : Bool) (fs : List FL) (clock : Nat) (sz : FL → Nat) (hb : Blk w b (dcells mb cv room fuse steps starts down) 71)
    (hm : w.heap[mb]? = some (.map (ents fs) clock)) (hlt : ∀ f ∈ fs, f.born < clock) (hnd : (fs.map (·.born)).Nodup) (hsz : ∀ f ∈ fs, ∃ a c, w.cell? ⟨f.eb, 0, none⟩ = some (.slice a (sz f) c)) (htot : tot sz fs ≤ 1000000000) :
    Calls Try.prog 72 #[.pointer (some ⟨b, 0, none⟩)] w fun e w' => e = .returned (.int .i64 (tot sz fs)) ∧ w.grownBy w' none := by
  have h0 := hb.cell 0
  simp at h0
  have hblt := hb.lt
  have hmlt := (Array.getElem?_eq_some_iff.1 hm).1
  have hrg := run_range_map (P := Try.prog) w 68 9 104 mb (ents fs) clock Try.underlying68 hm
  have hold : ∀ x ∈ (ents fs).toList, x.born < clock := fun x hx => by obtain ⟨f, hf, rfl⟩ := mem_ents hx; exact hlt f hf
  have hnd' : ((ents fs).toList.map (·.born)).Nodup := by simpa [ents, Function.comp_def] using hnd
  have HS : Hid (∀ f ∈ fs, ∃ a c, w.cell? ⟨f.eb, 0, none⟩ = some (.slice a (sz f) c)) := hsz
  have HM : Hid (w.heap[mb]? = some (.map (ents fs) clock)) := hm
  have HL : Hid (∀ f ∈ fs, f.born < clock) := hlt
  have HO : Hid (∀ x ∈ (ents fs).toList, x.born < clock) := hold
  clear hsz hm hlt hold hb
  go_enter Try.func72, Try.ntmps72
  go_wp2
  go_loopw [3] (fun s wr => ∃ (seen : Array Nat), wr.heap[w.heap.size]? = some (.mapIter (some mb) clock seen clock) ∧ w.grownBy wr none ∧ s = .int .i64 (gsum sz fs seen)) (fun _ wr => (leftOf (ents fs) (wr.iterSeen w.heap.size)).size)
  case atStart => exact ⟨#[], alloc_new _ _, World.grownBy_alloc _ _ _, by rw [gsum_none]⟩
  case round =>
    obtain ⟨seen, hit, hgr, rfl⟩ := hrel
    have hm1 := (hgr.block mb hmlt (by simp)).trans HM.out
    have hbd := gsum_bd sz seen fs
    have law := run_next_at (P := Try.prog) wr 0 w.heap.size mb clock clock seen (ents fs) clock hit hm1 HO.out (Nat.le_refl _)
    rcases law with ⟨h00, hrun⟩ | ⟨e, he, w1, hw1, hrun⟩
    · have hnx : ∀ ty, (Instr.next (.pointer (some ⟨w.heap.size, 0, none⟩)) false ty).run Try.prog wr = _ := fun _ => hrun
      have hall : gsum sz fs seen = tot sz fs := gsum_full sz seen fs (fun x hx => all_seen (ents fs) seen h00 x.ent (by simp only [ents, List.toList_toArray, List.mem_map]; exact ⟨x, hx, rfl⟩))
      have HA : Hid (gsum sz fs seen = tot sz fs) := hall
      clear hall hrun hit hm1 hrg
      go_wp2
      go_ret
      exact ⟨ret_int HA.out, hgr⟩
    · obtain ⟨f, hf, rfl⟩ := mem_ents (mem_left he).1
      have hseen : seen.contains f.born = false := (mem_left he).2
      have hgr1 : w.grownBy (setBlock w1 w.heap.size (.mapIter (some mb) clock (seen.push f.born) clock)) none := by
        rcases hw1 with rfl | rfl <;> exact ⟨hgr.os, hgr.tape, hgr.output, by simp [setBlock]; exact hgr.size, fun k hk _ => (setBlock_other _ (by omega)).trans (hgr.block k hk (by simp))⟩
      have hit1 : (setBlock w1 w.heap.size (.mapIter (some mb) clock (seen.push f.born) clock)).heap[w.heap.size]? = some (.mapIter (some mb) clock (seen.push f.born) clock) := by
        rcases hw1 with rfl | rfl <;> exact setBlock_same hit
      generalize setBlock w1 w.heap.size (.mapIter (some mb) clock (seen.push f.born) clock) = W at hgr1 hit1 hrun
      have hnx : ∀ ty, (Instr.next (.pointer (some ⟨w.heap.size, 0, none⟩)) false ty).run Try.prog wr = _ := fun _ => hrun
      have hm2 := (hgr1.block mb hmlt (by simp)).trans HM.out
      have hen := run_entry_at (P := Try.prog) W w.heap.size mb clock seen (ents fs) clock f.ent hit1 hm2 (mem_left he).1 hnd'
      obtain ⟨fa, fc, hfc⟩ := HS.out f hf
      have hfc' := hgr1.cell hfc (by simp)
      have hps := gsum_push sz seen f hseen fs hnd hf
      have hbd2 := gsum_bd sz (seen.push f.born) fs
      rw [hps] at hbd2
      have HP : Hid (gsum sz fs (seen.push f.born) = gsum sz fs seen + sz f) := hps
      have HI : Hid (W.heap[w.heap.size]? = some (.mapIter (some mb) clock (seen.push f.born) clock)) := hit1
      have HI0 : Hid (wr.heap[w.heap.size]? = some (.mapIter (some mb) clock seen clock)) := hit
      have HSH : Hid ((leftOf (ents fs) (seen.push f.born)).size < (leftOf (ents fs) seen).size) := left_shrinks (ents fs) seen f.ent he
      clear hps hit1 hit hrun hm1 hm2 he hfc hrg hseen
      go_wp2_with (go_at_call 46; refine (size_of W f.eb 0 fa (sz f) fc hfc').mono ?_; rintro e w2 ⟨rfl, rfl⟩)
      go_roundw
      case rel => exact ⟨seen.push f.born, HI.out, hgr1, by rw [HP.out]⟩
      case measure => simp only [World.iterSeen, HI.out, HI0.out]; exact HSH.out

end Go.Proofs.Ytfcgjedanhmpiaa
