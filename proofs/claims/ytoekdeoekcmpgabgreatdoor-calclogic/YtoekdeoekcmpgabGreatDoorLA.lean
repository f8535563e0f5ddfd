/- The logic of three values: what two and not answer. -/
import Derived.Test.YtoekdeoekcmpgabGreatDoorBT
import Derived.Test.YtoekdeoekcmpgabGreatDoorKBB
import Derived.Test.YtoekdeoekcmpgabGreatDoorRP
namespace Go.Proofs.YtoekdeoekcmpgabGreatDoor
open Go.ChangeShapes Go.WideShapes Go.ChangeAt Go.RowKit
set_option linter.unusedVariables false

def vk : Option Bool → Int
  | none => 0
  | some _ => 1
def vn : Option Bool → Int
  | some true => 1
  | _ => 0
/-- A truth value as a value. -/
abbrev tv (X : Option Bool) : Value := val (vk X) (vn X) ⟨#[]⟩
def trB (o : Option Int) : Option Bool := o.map fun m => decide (m ≠ 0)
def notB (X : Option Bool) : Option Bool := X.map (!·)
def setT (what : Bool) (X Y : Option Bool) : Option Bool := if X = some what ∨ Y = some what then some what else if X = none ∨ Y = none then none else some (!what)
def nulT (k k2 : Int) (X : Option Bool) : Option Bool := if k = 0 ∨ k2 = 0 then none else X

theorem truthB_tr (o : Option Int) : truthB o = .tuple #[.bool (trB o == some true), .bool (trB o).isSome] := by
  cases o with
  | none => rfl
  | some m => by_cases h : m = 0 <;> simp [truthB, trB, h]
theorem setB_tv : ∀ (what : Bool) (X Y : Option Bool), setB what (X == some true) X.isSome (Y == some true) Y.isSome = tv (setT what X Y) := by
  intro what X Y
  rcases X with _ | _ | _ <;> rcases Y with _ | _ | _ <;> cases what <;> rfl
theorem optV_not (o : Option Int) : optV (notO o) = tv (notB (trB o)) := by
  cases o with
  | none => rfl
  | some m => by_cases h : m = 0 <;> simp [notO, optV, trB, notB, vk, vn, h]
theorem tr_tv (X : Option Bool) : trB (numO (vk X) (vn X) (⟨#[]⟩ : ByteArray).data.toList) = X := by
  rcases X with _ | _ | _
  · have : numO (vk none) (vn none) (⟨#[]⟩ : ByteArray).data.toList = none := by
      unfold numO
      rw [if_pos (.inl ⟨rfl, rfl, rfl⟩), if_neg (by decide), if_neg (by decide)]
    rw [this]; rfl
  · have := num_of_int 0
    show trB (numO 1 0 _) = _
    rw [this]; rfl
  · have := num_of_int 1
    show trB (numO 1 1 _) = _
    rw [this]; rfl
theorem may_tv (X : Option Bool) : mayB (vk X) (vn X) ⟨#[]⟩ = true := by
  rcases X with _ | _ | _ <;> rfl
theorem truthV_tv (b : Bool) : truthV b = tv (some b) := by cases b <;> rfl
theorem nulV_tv (k k2 : Int) (b : Bool) : nulV k k2 (truthV b) = tv (nulT k k2 (some b)) := by
  unfold nulV nulT
  split
  · rfl
  · exact truthV_tv b
theorem vn_range (X : Option Bool) : -9223372036854775808 ≤ vn X ∧ vn X ≤ 9223372036854775807 := by
  rcases X with _ | _ | _ <;> exact ⟨by decide, by decide⟩

theorem not3 (X : Option Bool) : notB (notB (notB X)) = notB X := by rcases X with _ | _ | _ <;> rfl
theorem set_comm (what : Bool) (X Y : Option Bool) : setT what Y X = setT what X Y := by
  rcases X with _ | _ | _ <;> rcases Y with _ | _ | _ <;> cases what <;> rfl
theorem morgan (X Y : Option Bool) : setT true (notB X) (notB Y) = notB (setT false X Y) := by
  rcases X with _ | _ | _ <;> rcases Y with _ | _ | _ <;> rfl
theorem set_false (X : Option Bool) : setT true (some false) X = X := by rcases X with _ | _ | _ <;> rfl
theorem nul_not (k k2 : Int) (b b2 : Bool) (h : b2 = !b) : notB (nulT k k2 (some b)) = nulT k k2 (some b2) := by
  subst h
  unfold nulT
  split <;> rfl
theorem nul_comm (k k2 : Int) (X : Option Bool) : nulT k2 k X = nulT k k2 X := by
  unfold nulT
  by_cases h : k = 0 <;> by_cases h2 : k2 = 0 <;> simp [h, h2]

/-- What two answers. -/
abbrev TwoIs (op c k n : Int) (t : ByteArray) (k2 n2 : Int) (t2 : ByteArray) (X : Option Bool) : Prop := Hid (∀ V, Env V → Calls Tryz.prog 7 #[.int .i64 op, .agg #[.int .i64 k, .int .i64 n, .string t], .agg #[.int .i64 k2, .int .i64 n2, .string t2], .int .i64 c] V fun e w' => e = .returned (.agg #[.int .i64 (vk X), .int .i64 (vn X), .string ⟨#[]⟩]) ∧ Below V.heap.size V w')
abbrev NotIs (k n : Int) (t : ByteArray) (X : Option Bool) : Prop := Hid (∀ V, Env V → Calls Tryz.prog 8 #[.agg #[.int .i64 k, .int .i64 n, .string t]] V fun e w' => e = .returned (.agg #[.int .i64 (vk X), .int .i64 (vn X), .string ⟨#[]⟩]) ∧ Below V.heap.size V w')

theorem two_of (op c k n : Int) (t : ByteArray) (k2 n2 : Int) (t2 : ByteArray) (X : Option Bool) (v : Value) (hv : v = tv X) (h : ∀ V, Env V → Calls Tryz.prog 13 #[.int .i64 op, val k n t, val k2 n2 t2, .int .i64 c] V fun e w' => e = .returned (.tuple #[v, .int .i64 0]) ∧ Below V.heap.size V w') : TwoIs op c k n t k2 n2 t2 X := by
  subst hv
  exact fun V hV => two_walk op c k n t k2 n2 t2 (vk X) (vn X) ⟨#[]⟩ h V hV
theorem two_and (c k n : Int) (t : ByteArray) (k2 n2 : Int) (t2 : ByteArray) (hm1 : mayB k n t = true) (hm2 : mayB k2 n2 t2 = true) : TwoIs 21 c k n t k2 n2 t2 (setT false (trB (numO k n t.data.toList)) (trB (numO k2 n2 t2.data.toList))) :=
  two_of _ _ _ _ _ _ _ _ _ _ (setB_tv _ _ _) (fun V hV => bin_and c k n t k2 n2 t2 _ _ _ _ (truthB_tr _) (truthB_tr _) hm1 hm2 V hV)
theorem two_or (c k n : Int) (t : ByteArray) (k2 n2 : Int) (t2 : ByteArray) (hm1 : mayB k n t = true) (hm2 : mayB k2 n2 t2 = true) : TwoIs 22 c k n t k2 n2 t2 (setT true (trB (numO k n t.data.toList)) (trB (numO k2 n2 t2.data.toList))) :=
  two_of _ _ _ _ _ _ _ _ _ _ (setB_tv _ _ _) (fun V hV => bin_or c k n t k2 n2 t2 _ _ _ _ (truthB_tr _) (truthB_tr _) hm1 hm2 V hV)
theorem two_eq (c k n : Int) (t : ByteArray) (k2 n2 : Int) (t2 : ByteArray) (hm1 : mayB k n t = true) (hm2 : mayB k2 n2 t2 = true) : TwoIs 13 c k n t k2 n2 t2 (nulT k k2 (some (decide (cmpA k n t k2 n2 t2 c = 0)))) :=
  two_of _ _ _ _ _ _ _ _ _ _ (nulV_tv _ _ _) (fun V hV => bin_eq c k n t k2 n2 t2 hm1 hm2 V hV)
theorem two_ne (c k n : Int) (t : ByteArray) (k2 n2 : Int) (t2 : ByteArray) (hm1 : mayB k n t = true) (hm2 : mayB k2 n2 t2 = true) : TwoIs 14 c k n t k2 n2 t2 (nulT k k2 (some (decide (cmpA k n t k2 n2 t2 c ≠ 0)))) :=
  two_of _ _ _ _ _ _ _ _ _ _ (nulV_tv _ _ _) (fun V hV => bin_ne c k n t k2 n2 t2 hm1 hm2 V hV)
theorem two_lt (c k n : Int) (t : ByteArray) (k2 n2 : Int) (t2 : ByteArray) (hm1 : mayB k n t = true) (hm2 : mayB k2 n2 t2 = true) : TwoIs 15 c k n t k2 n2 t2 (nulT k k2 (some (decide (cmpA k n t k2 n2 t2 c < 0)))) :=
  two_of _ _ _ _ _ _ _ _ _ _ (nulV_tv _ _ _) (fun V hV => bin_lt c k n t k2 n2 t2 hm1 hm2 V hV)
theorem two_le (c k n : Int) (t : ByteArray) (k2 n2 : Int) (t2 : ByteArray) (hm1 : mayB k n t = true) (hm2 : mayB k2 n2 t2 = true) : TwoIs 16 c k n t k2 n2 t2 (nulT k k2 (some (decide (cmpA k n t k2 n2 t2 c ≤ 0)))) :=
  two_of _ _ _ _ _ _ _ _ _ _ (nulV_tv _ _ _) (fun V hV => bin_le c k n t k2 n2 t2 hm1 hm2 V hV)
theorem two_gt (c k n : Int) (t : ByteArray) (k2 n2 : Int) (t2 : ByteArray) (hm1 : mayB k n t = true) (hm2 : mayB k2 n2 t2 = true) : TwoIs 17 c k n t k2 n2 t2 (nulT k k2 (some (decide (0 < cmpA k n t k2 n2 t2 c)))) :=
  two_of _ _ _ _ _ _ _ _ _ _ (nulV_tv _ _ _) (fun V hV => bin_gt c k n t k2 n2 t2 hm1 hm2 V hV)
theorem two_ge (c k n : Int) (t : ByteArray) (k2 n2 : Int) (t2 : ByteArray) (hm1 : mayB k n t = true) (hm2 : mayB k2 n2 t2 = true) : TwoIs 18 c k n t k2 n2 t2 (nulT k k2 (some (decide (0 ≤ cmpA k n t k2 n2 t2 c)))) :=
  two_of _ _ _ _ _ _ _ _ _ _ (nulV_tv _ _ _) (fun V hV => bin_ge c k n t k2 n2 t2 hm1 hm2 V hV)
theorem two_is (c k n : Int) (t : ByteArray) (k2 n2 : Int) (t2 : ByteArray) (hm1 : mayB k n t = true) (hm2 : mayB k2 n2 t2 = true) : TwoIs 19 c k n t k2 n2 t2 (some (decide (cmpA k n t k2 n2 t2 c = 0))) :=
  two_of _ _ _ _ _ _ _ _ _ _ (truthV_tv _) (fun V hV => bin_is c k n t k2 n2 t2 hm1 hm2 V hV)
theorem two_isnot (c k n : Int) (t : ByteArray) (k2 n2 : Int) (t2 : ByteArray) (hm1 : mayB k n t = true) (hm2 : mayB k2 n2 t2 = true) : TwoIs 20 c k n t k2 n2 t2 (some (decide (cmpA k n t k2 n2 t2 c ≠ 0))) :=
  two_of _ _ _ _ _ _ _ _ _ _ (truthV_tv _) (fun V hV => bin_isnot c k n t k2 n2 t2 hm1 hm2 V hV)

set_option maxHeartbeats 1000000 in
set_option maxRecDepth 10000 in
theorem lnot_walk (k n : Int) (t : ByteArray) (r1 r2 : Int) (r3 : ByteArray) (HB : Hid (∀ V, Env V → Calls Tryz.prog 14 #[.int .i64 6, .agg #[.int .i64 k, .int .i64 n, .string t]] V fun e w' => e = .returned (.tuple #[.agg #[.int .i64 r1, .int .i64 r2, .string r3], .int .i64 0]) ∧ Below V.heap.size V w')) (w : World) (hE : Env w) :
    Calls Tryz.prog 8 #[.agg #[.int .i64 k, .int .i64 n, .string t]] w fun e w' => e = .returned (.agg #[.int .i64 r1, .int .i64 r2, .string r3]) ∧ Below w.heap.size w w' := by
  have HW : Hid (∀ V, _ → _) := pr_later w k n t
  have HE0 : Hid (Env ((w.alloc (vcells k n t)).alloc nilcells)) := hE.below (below_trans (new_below w _ rfl) (new_below _ _ rfl))
  clear hE
  go_enter Tryz.func8, Tryz.ntmps8
  go_wp2_with (first
    | (go_at_call 14; with_reducible refine Calls.mono (HB.out _ HE0.out) ?_; rintro e w1 ⟨rfl, hb1⟩; obtain ⟨⟨p0, p1, p2⟩, q0, q1, q2, ⟨d0, d1, d2, f0, f1, f2⟩, HK1, HB1⟩ := HW.out _ (below_trans hb1 (new_below w1 (vcells r1 r2 r3) rfl)); clear hb1))
  exact ret_valg Tryz.results8 rfl HK1.out ⟨rfl, below_set3g HB1.out (Nat.le_succ _) _ _ _⟩

theorem not_of (k n : Int) (t : ByteArray) (h0 : -9223372036854775808 ≤ n) (h1 : n ≤ 9223372036854775807) (hm : mayB k n t = true) : NotIs k n t (notB (trB (numO k n t.data.toList))) := by
  have e : unV 6 k n t = tv (notB (trB (numO k n t.data.toList))) := by
    unfold unV
    rw [if_pos ⟨by decide, hm⟩, if_neg (by decide), if_neg (by decide)]
    exact optV_not _
  refine fun V hV => lnot_walk k n t _ _ _ (fun U hU => ?_) V hV
  have := unary_not k n t h0 h1 hm U hU
  rw [e] at this
  exact this
/-- Of a truth value. -/
theorem not_tv (X : Option Bool) : NotIs (vk X) (vn X) ⟨#[]⟩ (notB X) := by
  have := not_of (vk X) (vn X) ⟨#[]⟩ (vn_range X).1 (vn_range X).2 (may_tv X)
  rw [tr_tv] at this
  exact this
theorem or_tv (c : Int) (X Y : Option Bool) : TwoIs 22 c (vk X) (vn X) ⟨#[]⟩ (vk Y) (vn Y) ⟨#[]⟩ (setT true X Y) := by
  have := two_or c (vk X) (vn X) ⟨#[]⟩ (vk Y) (vn Y) ⟨#[]⟩ (may_tv X) (may_tv Y)
  rw [tr_tv, tr_tv] at this
  exact this
end Go.Proofs.YtoekdeoekcmpgabGreatDoor
