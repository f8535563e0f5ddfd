/- Package calc: texts as numbers: ParseInt, number, firstNumber. -/
import Derived.Test.YtoekdeoekcmpgabGreatDoorKB
namespace Go.Proofs.YtoekdeoekcmpgabGreatDoor
open Go.ChangeShapes Go.WideShapes Go.ChangeAt Go.RowKit
set_option linter.unusedVariables false

theorem bytes_below (w : World) (t : ByteArray) : Below w.heap.size w (Lib.bytesWorld w 5 t) :=
  ⟨rfl, rfl, rfl, by rw [Lib.bytesWorld_size]; omega, fun j hj => Lib.bytesWorld_at_old w 5 t j hj⟩

theorem pi_ok (s : ByteArray) (hs : s.size ≤ 1000) (v : Int) (h : intL s.data.toList = some v) (w : World) : Calls Tryz.prog 43 #[.string s, .int .i64 10, .int .i64 64] w fun e w' => e = .returned (.tuple #[.int .i64 v, .nilIface]) ∧ Below w.heap.size w w' := by
  unfold intL at h
  cases hp : Lib.parseIntB 64 s.data.toList with
  | ok u =>
    rw [hp] at h
    obtain rfl : u = v := Option.some.inj h
    refine (Tryz.strconv_ParseInt_10_at64_ok s (by omega) u hp w).mono ?_
    rintro e w1 ⟨rfl, hw⟩
    refine ⟨rfl, ?_⟩
    rcases hw with rfl | ⟨t, rfl⟩
    · exact Below.refl _ _
    · exact ⟨rfl, rfl, rfl, by rw [Lib.bytesWorld_size]; omega, fun j hj => Lib.bytesWorld_at_old w 5 t j hj⟩
  | «syntax» => rw [hp] at h; cases h
  | range => rw [hp] at h; cases h
theorem pi_no (s : ByteArray) (hs : s.size ≤ 1000) (h : intL s.data.toList = none) (w : World) (hE : Env w) : Calls Tryz.prog 43 #[.string s, .int .i64 10, .int .i64 64] w fun e w' => ∃ m te pe, e = .returned (.tuple #[.int .i64 m, .iface te pe]) ∧ Below w.heap.size w w' := by
  unfold intL at h
  cases hp : Lib.parseIntB 64 s.data.toList with
  | ok u => rw [hp] at h; cases h
  | «syntax» =>
    obtain ⟨ev, h1, h2⟩ := hE.syn
    refine (Tryz.strconv_ParseInt_10_at64_syntax s (by omega) hp ev w h1 h2).mono ?_
    rintro e w1 ⟨N, rfl, _, _, hb⟩
    exact ⟨_, _, _, rfl, hb⟩
  | range =>
    obtain ⟨ev, h1, h2⟩ := hE.ran
    refine (Tryz.strconv_ParseInt_10_at64_range s (by omega) hp ev w h1 h2).mono ?_
    rintro e w1 ⟨N, rfl, _, _, hb⟩
    exact ⟨_, _, _, rfl, hb⟩

/-- A number, or NULL. -/
def optV : Option Int → Value
  | some n => val 1 n ⟨#[]⟩
  | none => val 0 0 ⟨#[]⟩

set_option maxHeartbeats 1000000 in
set_option maxRecDepth 10000 in
theorem knumber_walk (s : ByteArray) (hs : s.size ≤ 1000) (w : World) (hE : Env w) : Calls Tryz.prog 22 #[.string s] w fun e w' => e = .returned (optV (intL s.data.toList)) ∧ Below w.heap.size w w' := by
  have HW : Hid (∀ V, _ → _) := res_later w
  have HE : Hid (∀ V, Below w.heap.size w V → Env V) := fun V h => hE.below h
  have HE1 : Hid (Env (w.alloc (.cells #[.int .i64 0, .int .i64 0, .string ⟨#[]⟩] 24))) := hE.below (new_below w _ rfl)
  clear hE
  cases h : intL s.data.toList with
  | some v =>
    have HP : Hid (∀ V, Calls Tryz.prog 43 #[.string s, .int .i64 10, .int .i64 64] V fun e w' => e = .returned (.tuple #[.int .i64 v, .nilIface]) ∧ Below V.heap.size V w') := fun V => pi_ok s hs v h V
    clear h
    go_enter Tryz.func22, Tryz.ntmps22
    go_wp2_with (first
      | (go_at_call 43; with_reducible refine Calls.mono (HP.out _) ?_; rintro e w1 ⟨rfl, hb1⟩; obtain ⟨d0, d1, d2, f0, f1, f2, a0, a1, a2, b0, b1, b2, HK1, HB1, HL1⟩ := HW.out _ hb1; have HBx := hide hb1; clear hb1)
      | (go_at_call 25; with_reducible refine Calls.mono (int_walk _ _) ?_; rintro e w2 ⟨rfl, hb2⟩; obtain ⟨d0, d1, d2, f0, f1, f2, a0, a1, a2, b0, b1, b2, HK2, HB2, HL2⟩ := HW.out _ (below_trans HBx.out hb2); clear hb2))
    exact ret_val Tryz.results22 rfl HK2.out ⟨rfl, below_set3 HB2.out _ _ _⟩
  | none =>
    have HP : Hid (∀ V, Env V → Calls Tryz.prog 43 #[.string s, .int .i64 10, .int .i64 64] V fun e w' => ∃ m te pe, e = .returned (.tuple #[.int .i64 m, .iface te pe]) ∧ Below V.heap.size V w') := fun V hV => pi_no s hs h V hV
    clear h
    go_enter Tryz.func22, Tryz.ntmps22
    go_wp2_with (first
      | (go_at_call 43; with_reducible refine Calls.mono (HP.out _ HE1.out) ?_; rintro e w1 ⟨m, te, pe, rfl, hb1⟩; obtain ⟨d0, d1, d2, f0, f1, f2, a0, a1, a2, b0, b1, b2, HK1, HB1, HL1⟩ := HW.out _ hb1; clear hb1))
    exact ret_val Tryz.results22 rfl HK1.out ⟨rfl, below_set3 HB1.out _ _ _⟩

theorem ib_sign (c : UInt8) (w : World) : Calls Tryz.prog 68 #[.string ⟨#[43, 45]⟩, .int .u8 (c.toNat : Int)] w fun e w' => e = .returned (.int .i64 (Lib.indexByte [43, 45] c)) ∧ w = w' := by
  refine (Tryz.strings_IndexByte _ _ _).mono ?_
  rintro e w1 ⟨rfl, rfl⟩
  refine ⟨?_, rfl⟩
  simp
theorem sign_fin : ∀ c : Fin 256, decide (0 ≤ Lib.indexByte [43, 45] (UInt8.ofNat c.val)) = decide (UInt8.ofNat c.val = 43 ∨ UInt8.ofNat c.val = 45) := by decide +kernel
theorem sign_iff (c : UInt8) : 0 ≤ Lib.indexByte [43, 45] c ↔ (c = 43 ∨ c = 45) := by
  have := sign_fin ⟨c.toNat, UInt8.toNat_lt c⟩
  simp only [UInt8.ofNat_toNat] at this
  exact decide_eq_decide.1 this

theorem tl_digits (s : ByteArray) (w : World) : Calls Tryz.prog 40 #[.string s, .string ⟨#[48, 49, 50, 51, 52, 53, 54, 55, 56, 57]⟩] w fun e w' => e = .returned (.string ⟨(Lib.trimLeftS s.data.toList digitL).toArray⟩) ∧ Below w.heap.size w w' :=
  Tryz.strings_TrimLeft_laid s ⟨#[48, 49, 50, 51, 52, 53, 54, 55, 56, 57]⟩ w (by decide) (ascii_of_all (by decide))
theorem tl_blanks (s : ByteArray) (w : World) : Calls Tryz.prog 40 #[.string s, .string ⟨#[32, 9, 10, 13]⟩] w fun e w' => e = .returned (.string ⟨(Lib.trimLeftS s.data.toList blankL).toArray⟩) ∧ Below w.heap.size w w' :=
  Tryz.strings_TrimLeft_laid s ⟨#[32, 9, 10, 13]⟩ w (by decide) (ascii_of_all (by decide))

theorem trimSuffix_app (a b : List UInt8) : Lib.trimSuffix (a ++ b) b = a := by
  unfold Lib.trimSuffix
  have h : Lib.hasSuffix (a ++ b) b = true := by unfold Lib.hasSuffix; simp
  rw [if_pos h]
  simp
end Go.Proofs.YtoekdeoekcmpgabGreatDoor
