/- Whether there is room for a longer file. -/
import Derived.Test.YteocmhbllckpjaaGreatI
import Derived.Deep.QuietTactic
import Derived.BigQuiet
namespace Go.Proofs.YteocmhbllckpjaaGreat
open Go.ChangeShapes Go.WideShapes Go.ChangeAt Go.RowKit
open Go.ChangeMaps (setBlock)
set_option linter.unusedVariables false

theorem grown_drewN {w W : World} {r : Option Nat} {n : Nat} (h : w.grownBy W r) : w.grownBy (W.drewN n) r := ⟨h.os, h.tape, h.output, h.size, h.block⟩
theorem ret_bool {a b : Bool} (h : a = b) : Ending.returned (.bool a) = .returned (.bool b) := by rw [h]
theorem grown_trans {a b c : World} (h : a.grownBy b none) (k : b.grownBy c none) : a.grownBy c none :=
  ⟨k.os.trans h.os, k.tape.trans h.tape, k.output.trans h.output, Nat.le_trans h.size k.size, fun i hi _ => (k.block i (Nat.lt_of_lt_of_le hi h.size) (by simp)).trans (h.block i hi (by simp))⟩

/-- 'seen' in whatever case: a pointer to a cell whose slice has the file's length. -/
theorem seen_any (w : World) (b mb : Nat) (cv : Value) (room fuse steps starts : Int) (down : Bool) (fs : List FL) (clock : Nat) (nm : ByteArray) (sz : FL → Nat) (hb : Blk w b (dcells mb cv room fuse steps starts down) 76)
    (hm : w.heap[mb]? = some (.map (ents fs) clock)) (hsz : ∀ f ∈ fs, ∃ a c, w.cell? ⟨f.eb, 0, none⟩ = some (.slice a (sz f) c)) :
    Calls Tryz.prog 39 #[.pointer (some ⟨b, 0, none⟩), .string nm] w fun e w' => ∃ eb a c, e = .returned (.pointer (some ⟨eb, 0, none⟩)) ∧ w'.cell? ⟨eb, 0, none⟩ = some (.slice a (((look fs nm).map sz).getD 0) c) ∧ w.grownBy w' none := by
  cases hl : look fs nm with
  | none =>
    refine (seen_miss w b mb cv room fuse steps starts down fs clock nm hb hm hl).mono ?_
    rintro e w' ⟨rfl, rfl⟩
    exact ⟨_, none, 0, rfl, by rw [cell_of_row _ _ _ _ _ _ (alloc_new _ _)]; simp, World.grownBy_alloc _ _ _⟩
  | some f =>
    refine (seen_hit w b mb cv room fuse steps starts down fs clock nm f hb hm hl).mono ?_
    rintro e w' ⟨rfl, rfl⟩
    obtain ⟨a, c, h⟩ := hsz f (List.mem_of_find?_eq_some hl)
    exact ⟨_, a, c, rfl, h, ⟨rfl, rfl, rfl, Nat.le_refl _, fun _ _ _ => rfl⟩⟩

set_option maxRecDepth 100000 in
theorem lacks_no (w : World) (b mb : Nat) (cv : Value) (room fuse steps starts : Int) (down : Bool) (fs : List FL) (clock : Nat) (nm : ByteArray) (sz : FL → Nat) (n size : Nat) (hb : Blk w b (dcells mb cv room fuse steps starts down) 76)
    (hm : w.heap[mb]? = some (.map (ents fs) clock)) (hsz : ∀ f ∈ fs, ∃ a c, w.cell? ⟨f.eb, 0, none⟩ = some (.slice a (sz f) c)) (hn : ((look fs nm).map sz).getD 0 = n) (h1 : size ≤ n) (h2 : n ≤ 1048576) :
    Calls Tryz.prog 71 #[.pointer (some ⟨b, 0, none⟩), .string nm, .int .i64 size] w fun e w' => e = .returned (.bool false) ∧ w.grownBy w' none := by
  have H := seen_any w b mb cv room fuse steps starts down fs clock nm sz hb hm hsz
  rw [hn] at H
  have hd : decide ((0 : Int) < (size : Int) - (n : Int)) = false := by simp; omega
  have hd2 : decide ((n : Int) < (size : Int)) = false := by simp; omega
  have hd3 : decide (n < size) = false := by simp; omega
  clear hb hm hsz hn
  go_enter Tryz.func71, Tryz.ntmps71
  go_wp2_with (first
    | (go_at_call 39; refine H.mono ?_; rintro e w1 ⟨eb, a, c, rfl, hc, hg⟩)
    | (go_at_call 79; refine (size_of w1 eb 0 a n c hc).mono ?_; rintro e w2 ⟨rfl, rfl⟩))
  go_quiet (fail)
  go_wp2
  go_ret
  exact ⟨rfl, grown_drewN hg⟩

set_option maxHeartbeats 2000000 in
set_option maxRecDepth 100000 in
theorem lacks_yes (w : World) (b mb : Nat) (cv : Value) (room fuse steps starts : Int) (down : Bool) (fs : List FL) (clock : Nat) (nm : ByteArray) (sz : FL → Nat) (n size : Nat) (hb : Blk w b (dcells mb cv room fuse steps starts down) 76)
    (hm : w.heap[mb]? = some (.map (ents fs) clock)) (hlt : ∀ f ∈ fs, f.born < clock) (hnd : (fs.map (·.born)).Nodup) (hsz : ∀ f ∈ fs, ∃ a c, w.cell? ⟨f.eb, 0, none⟩ = some (.slice a (sz f) c)) (htot : tot sz fs ≤ 1000000000)
    (hn : ((look fs nm).map sz).getD 0 = n) (h1 : n < size) (h2 : size ≤ 1048576) :
    Calls Tryz.prog 71 #[.pointer (some ⟨b, 0, none⟩), .string nm, .int .i64 size] w fun e w' => e = .returned (.bool (decide (room < (tot sz fs : Int) + ((size : Int) - (n : Int))))) ∧ w.grownBy w' none := by
  have H := seen_any w b mb cv room fuse steps starts down fs clock nm sz hb hm hsz
  rw [hn] at H
  have hd : (0 : Int) < (size : Int) - (n : Int) := by omega
  have hd2 : (n : Int) < (size : Int) := by omega
  have U : ∀ w1, w.grownBy w1 none → (Calls Tryz.prog 112 #[.pointer (some ⟨b, 0, none⟩)] w1 fun e w' => e = .returned (.int .i64 (tot sz fs)) ∧ w1.grownBy w' none) := fun w1 hg =>
    used_any w1 b mb cv room fuse steps starts down fs clock sz ((hg.block b hb.lt (by simp)).trans hb) ((hg.block mb (Array.getElem?_eq_some_iff.1 hm).1 (by simp)).trans hm) hlt hnd (fun f hf => by obtain ⟨a, c, h⟩ := hsz f hf; exact ⟨a, c, hg.cell h (by simp)⟩) htot
  have hroom := hb.cell 2
  simp at hroom
  have R : ∀ w1, w.grownBy w1 none → w1.cell? ⟨b, 2, none⟩ = some (.int .i64 room) := fun w1 hg => hg.cell hroom (by simp)
  have HU : Hid (∀ w1, w.grownBy w1 none → (Calls Tryz.prog 112 #[.pointer (some ⟨b, 0, none⟩)] w1 fun e w' => e = .returned (.int .i64 (tot sz fs)) ∧ w1.grownBy w' none)) := U
  have HR : Hid (∀ w1, w.grownBy w1 none → w1.cell? ⟨b, 2, none⟩ = some (.int .i64 room)) := R
  obtain ⟨T, hT⟩ : ∃ T : Nat, T = tot sz fs := ⟨_, rfl⟩
  rw [← hT] at HU htot ⊢
  clear hb hm hsz hn hlt hnd U R hroom hT
  go_enter Tryz.func71, Tryz.ntmps71
  go_wp2_with (first
    | (go_at_call 39; refine H.mono ?_; rintro e w1 ⟨eb, a, c, rfl, hc, hg⟩)
    | (go_at_call 79; refine (size_of w1 eb 0 a n c hc).mono ?_; rintro e w2 ⟨rfl, rfl⟩))
  have hwr : IntKind.i64.wrap ((T : Int) + ((size : Int) - (n : Int))) = (T : Int) + ((size : Int) - (n : Int)) := by rw [IntKind.wrap_i64]; omega
  have r1 := HR.out w1 hg
  go_region_with (go_at_call 112; refine (HU.out _ (grown_drew hg)).mono ?_; rintro e w3 ⟨rfl, hg3⟩; have r3 := HR.out w3 (grown_trans (grown_drew hg) hg3))
  all_goals
    go_wp2
    go_ret
    exact ⟨by first | rfl | (simp [hwr]; done), grown_trans (grown_drew hg) hg3⟩
end Go.Proofs.YteocmhbllckpjaaGreat
