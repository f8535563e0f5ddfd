/- What may be left of a file behind a crash: heads. Plain. -/
/- Steps that crash anywhere: heads, frames, pages of the database. Plain. -/
/- Steps on a disk that may crash. -/
import Derived.Test.YteocmhbllckpjaaGreatXA
import Derived.Test.YteocmhbllckpjaaGreatW6
namespace Go.Proofs.YteocmhbllckpjaaGreat
open Go.ChangeShapes Go.WideShapes Go.ChangeAt Go.RowKit
set_option linter.unusedVariables false

/-- What may be left of a file, whatever becomes of its changes. -/
def Surv (nm : ByteArray) : List UInt8 → List Ch → List UInt8 → Prop
  | l, [], X => X = l
  | l, c :: r, X => ∃ k : Int, Surv nm (if isN nm c then takeL l c k else l) r X
theorem Surv.inv {nm : ByteArray} {P : List UInt8 → Prop} : ∀ {cs : List Ch} {l X : List UInt8}, (∀ c ∈ cs, isN nm c = true → ∀ l k, P l → P (takeL l c k)) → P l → Surv nm l cs X → P X
  | [], l, X, _, hl, h => by rw [show X = l from h]; exact hl
  | c :: r, l, X, hc, hl, h => by
    obtain ⟨k, h⟩ := h
    refine Surv.inv (fun d hd => hc d (by simp [hd])) ?_ h
    cases hb : isN nm c with
    | false => simpa using hl
    | true => simpa using hc c (by simp) hb l k hl
theorem Surv.other {nm : ByteArray} {cs : List Ch} {l X : List UInt8} (hc : ∀ c ∈ cs, isN nm c = false) (h : Surv nm l cs X) : X = l :=
  Surv.inv (P := fun Y => Y = l) (fun c hm hb => by rw [hc c hm] at hb; cases hb) rfl h
theorem surv_kept {nm : ByteArray} {chs : List Ch} {ch : Nat → Int} {l : List UInt8} : ∀ (n j : Nat), j + n = chs.length → Surv nm (keptJ chs ch nm l j) (chs.drop j) (keptJ chs ch nm l chs.length)
  | 0, j, h => by
    rw [List.drop_of_length_le (by omega)]
    show keptJ chs ch nm l chs.length = keptJ chs ch nm l j
    rw [← h]; rfl
  | n + 1, j, h => by
    have hj : j < chs.length := by omega
    rw [List.drop_eq_getElem_cons hj]
    refine ⟨ch j, ?_⟩
    have := surv_kept (nm := nm) (chs := chs) (ch := ch) (l := l) n (j + 1) (by omega)
    rw [keptJ_succ (List.getElem?_eq_getElem hj)] at this
    exact this
theorem keepF_surv {nm : ByteArray} : ∀ (cs : List Ch) (l : List UInt8), Surv nm l cs (keepF nm l cs)
  | [], l => rfl
  | c :: r, l => ⟨1, keepF_surv r _⟩
/-- Whatever a crash leaves has that property. -/
def Safe (Q : List UInt8 → List UInt8 → Prop) (s : PS) : Prop := ∀ XD XJ, Surv nmD (s.K nmD) s.cs XD → Surv nmJ (s.K nmJ) s.cs XJ → Q XD XJ
theorem pst_le {s : PS} {S S' : Nat → Stp} {n : Nat} : ∀ {k : Nat}, k ≤ n → pst s (catS S n S') k = pst s S k
  | 0, _ => rfl
  | k + 1, h => by
    show (catS S n S' k).dn (pst s (catS S n S') k) = (S k).dn (pst s S k)
    rw [catS_lt (by omega), pst_le (by omega)]
theorem pst_add {s : PS} {S S' : Nat → Stp} {n : Nat} : ∀ (k : Nat), pst s (catS S n S') (n + k) = pst (pst s S n) S' k
  | 0 => pst_le (Nat.le_refl _)
  | k + 1 => by
    show (catS S n S' (n + k)).dn (pst s (catS S n S') (n + k)) = (S' k).dn (pst (pst s S n) S' k)
    rw [catS_ge, pst_add k]
/-- No crash at any of the steps leaves anything else. -/
def Run (Q : List UInt8 → List UInt8 → Prop) (s : PS) (S : Nat → Stp) (n : Nat) : Prop := ∀ k, k < n → Safe Q ((S k).cr (pst s S k))
theorem Run.cat {Q : List UInt8 → List UInt8 → Prop} {s : PS} {S S' : Nat → Stp} {n m : Nat} (h : Run Q s S n) (h' : Run Q (pst s S n) S' m) : Run Q s (catS S n S') (n + m) := fun k hk => by
  by_cases c : k < n
  · rw [catS_lt c, pst_le (Nat.le_of_lt c)]; exact h k c
  · obtain ⟨j, rfl⟩ : ∃ j, k = n + j := ⟨k - n, by omega⟩
    rw [catS_ge, pst_add]; exact h' j (by omega)
/-- A property of a file that all its changes keep. -/
structure Pend (nm : ByteArray) (P : List UInt8 → Prop) (s : PS) : Prop where
  here : P (s.K nm)
  keep : ∀ c ∈ s.cs, isN nm c = true → ∀ l k, P l → P (takeL l c k)
theorem Pend.surv {nm : ByteArray} {P : List UInt8 → Prop} {s : PS} (h : Pend nm P s) {X : List UInt8} (hX : Surv nm (s.K nm) s.cs X) : P X := Surv.inv h.keep h.here hX
theorem Pend.see {nm : ByteArray} {P : List UInt8 → Prop} {s : PS} (h : Pend nm P s) : P (s.see nm) := h.surv (keepF_surv _ _)
theorem wchs_name {nm : ByteArray} {l d : List UInt8} {a : Nat} {c : Ch} (h : c ∈ wchs nm l a d) : c.name = nm := by
  unfold wchs at h
  rcases List.mem_append.1 h with h | h
  · unfold wsize at h
    split at h
    · rw [List.mem_singleton.1 h]
    · cases h
  · unfold secs at h
    obtain ⟨k, _, rfl⟩ := List.mem_map.1 h
    rfl
theorem isN_no {nm nm' : ByteArray} {c : Ch} (h : c.name = nm') (hne : nm ≠ nm') : isN nm c = false := by
  cases hb : isN nm c with
  | false => rfl
  | true => exact absurd ((isN_eq hb).symm.trans h) hne
theorem mem_others {nm : ByteArray} {c : Ch} {cs : List Ch} (h : c ∈ others nm cs) : c ∈ cs ∧ isN nm c = false := by
  have := List.mem_filter.1 h
  exact ⟨this.1, by simpa using this.2⟩
/-- A step keeps a property, if its own changes do. -/
theorem Pend.dn {nm : ByteArray} {P : List UInt8 → Prop} {s : PS} (h : Pend nm P s) (st : Stp)
    (hp : ∀ a d, st = .put nm a d → ∀ c ∈ wchs nm (s.see nm) a d.data.toList, ∀ l k, P l → P (takeL l c k)) (hc : ∀ n, st = .cut nm n → ∀ l k, P l → P (takeL l (cutC nm n) k)) : Pend nm P (st.dn s) := by
  cases st with
  | put nm' a d =>
    refine ⟨h.here, fun c hm hb => ?_⟩
    rcases List.mem_append.1 hm with hm | hm
    · exact h.keep c hm hb
    · by_cases e : nm' = nm
      · subst e; exact hp a d rfl c hm
      · rw [isN_no (wchs_name hm) (Ne.symm e)] at hb; cases hb
  | cut nm' n =>
    refine ⟨h.here, fun c hm hb => ?_⟩
    rcases List.mem_append.1 hm with hm | hm
    · exact h.keep c hm hb
    · have hm2 : c ∈ (if n = (s.see nm').length then [] else [cutC nm' n]) := hm
      split at hm2
      · cases hm2
      · by_cases e : nm' = nm
        · subst e; rw [List.mem_singleton.1 hm2]; exact hc n rfl
        · rw [List.mem_singleton.1 hm2] at hb
          rw [isN_no (nm' := nm') rfl (Ne.symm e)] at hb; cases hb
  | sync nm' =>
    by_cases e : nm' = nm
    · subst e
      refine ⟨?_, fun c hm hb => ?_⟩
      · show P (s.K.set nm' (s.see nm') nm')
        rw [set_same]; exact h.see
      · rw [(mem_others hm).2] at hb; cases hb
    · refine ⟨?_, fun c hm hb => h.keep c (mem_others hm).1 hb⟩
      show P (s.K.set nm' (s.see nm') nm)
      rw [set_other _ (Ne.symm e)]; exact h.here
theorem Pend.cr {nm : ByteArray} {P : List UInt8 → Prop} {s : PS} (h : Pend nm P s) (st : Stp)
    (hp : ∀ a d, st = .put nm a d → ∀ c ∈ wchs nm (s.see nm) a d.data.toList, ∀ l k, P l → P (takeL l c k)) (hc : ∀ n, st = .cut nm n → ∀ l k, P l → P (takeL l (cutC nm n) k)) : Pend nm P (st.cr s) := by
  cases st with
  | put nm' a d => exact h.dn _ hp hc
  | cut nm' n => exact h.dn _ hp hc
  | sync nm' => exact h
theorem Pend.safe {P P' : List UInt8 → Prop} {s : PS} {Q : List UInt8 → List UInt8 → Prop} (h : Pend nmD P s) (h' : Pend nmJ P' s) (hq : ∀ x y, P x → P' y → Q x y) : Safe Q s := fun XD XJ hD hJ => hq _ _ (h.surv hD) (h'.surv hJ)
/-- What is seen behind a step. -/
theorem keepF_none {nm : ByteArray} {l : List UInt8} {cs : List Ch} (h : ∀ c ∈ cs, isN nm c = false) : keepF nm l cs = l := Surv.other h (keepF_surv cs l)
theorem keepF_oth {nm nm' : ByteArray} (hne : nm ≠ nm') : ∀ (cs : List Ch) (l : List UInt8), keepF nm l (others nm' cs) = keepF nm l cs
  | [], _ => rfl
  | c :: r, l => by
    unfold others
    rw [List.filter_cons]
    cases hb : isN nm' c with
    | true =>
      have hb' : isN nm c = false := isN_no (isN_eq hb) hne
      show keepF nm l (others nm' r) = keepF nm (if isN nm c then takeL l c 1 else l) r
      rw [hb', keepF_oth hne r l]
      rfl
    | false =>
      show keepF nm (if isN nm c then takeL l c 1 else l) (others nm' r) = keepF nm (if isN nm c then takeL l c 1 else l) r
      exact keepF_oth hne r _
theorem see_dn (s : PS) (st : Stp) (hok : ∀ nm a d, st = .put nm a d → 0 < d.size) : (st.dn s).see = st.on s.see := by
  funext nm
  cases st with
  | put nm' a d =>
    show keepF nm (s.K nm) (s.cs ++ wchs nm' (s.see nm') a d.data.toList) = Vw.set s.see nm' (wseen (s.see nm') a d.data.toList) nm
    rw [keepF_append]
    by_cases e : nm = nm'
    · subst e
      rw [set_same]
      have hl : d.data.toList.length = d.size := by rw [Array.length_toList]; rfl
      exact keep_wchs nm (s.see nm) d.data.toList a (by have := hok nm a d rfl; omega)
    · rw [set_other _ e]
      exact keepF_none (fun c hc => isN_no (wchs_name hc) e)
  | cut nm' n =>
    show keepF nm (s.K nm) (s.cs ++ if n = (s.see nm').length then [] else [cutC nm' n]) = Vw.set s.see nm' (rsz (s.see nm') n) nm
    by_cases e : nm = nm'
    · subst e
      rw [set_same]
      by_cases c : n = (s.see nm).length
      · rw [if_pos c, List.append_nil, c, rsz_self]
        rfl
      · rw [if_neg c]
        rw [keepF_append]
        show (if isN nm (cutC nm n) then takeL (s.see nm) (cutC nm n) 1 else s.see nm) = _
        rw [show isN nm (cutC nm n) = true from isN_self _ _ _ _, if_pos rfl]
        unfold takeL
        rw [if_neg (by decide), if_pos (show (cutC nm n).sector = -1 from rfl)]
        show rsz (s.see nm) (n : Int).toNat = _
        rw [Int.toNat_natCast]
    · rw [set_other _ e]
      split
      · rw [List.append_nil]; rfl
      · rw [keepF_append]
        exact keepF_none (fun c hc => by rw [List.mem_singleton.1 hc]; exact isN_no (nm' := nm') rfl e)
  | sync nm' =>
    show keepF nm (s.K.set nm' (s.see nm') nm) (others nm' s.cs) = s.see nm
    by_cases e : nm = nm'
    · subst e
      rw [set_same]
      exact keepF_none (fun c hc => (mem_others hc).2)
    · rw [set_other _ e, keepF_oth e]
      rfl
def PutsOk (S : Nat → Stp) (n : Nat) : Prop := ∀ k, k < n → ∀ nm a d, S k = .put nm a d → 0 < d.size
theorem see_pst (s : PS) (S : Nat → Stp) (n : Nat) (hok : PutsOk S n) : ∀ k, k ≤ n → (pst s S k).see = vw s.see S k
  | 0, _ => rfl
  | k + 1, h => by
    show ((S k).dn (pst s S k)).see = (S k).on (vw s.see S k)
    rw [see_dn _ _ (hok k (by omega)), see_pst s S n hok k (by omega)]

theorem saysF_congr {f g C : Nat → Nat} (h : ∀ i, i < 48 → f i = g i) (hs : saysF f C) : saysF g C := by
  have hsame : sameF g → sameF f := fun hg i hi => by rw [h i (by omega), h (16 + i) (by omega)]; exact hg i hi
  have hsame2 : sameF f → sameF g := fun hg i hi => by rw [← h i (by omega), ← h (16 + i) (by omega)]; exact hg i hi
  exact ⟨fun hg i hi => by rw [← h i (by omega)]; exact hs.1 (hsame hg) i hi, fun hg i hi => by rw [← h (32 + i) (by omega)]; exact hs.2 (fun x => hg (hsame2 x)) i hi⟩
/-- A file whose head says that, however often it is written anew. -/
structure HS (X : List UInt8) (a b c d : Nat) : Prop where
  long : 64 ≤ X.length
  st : ∀ k, saysF (mixF (byteAt (sealB a b c d)) (byteAt X) k) (gbF a b c d)
theorem HS.congr {X Y : List UInt8} {a b c d : Nat} (h : HS X a b c d) (hl : 64 ≤ Y.length) (he : ∀ i, i < 64 → byteAt Y i = byteAt X i) : HS Y a b c d :=
  ⟨hl, fun k => saysF_congr (fun i hi => by unfold mixF; rw [he i (by omega)]) (h.st k)⟩
theorem HS.hd {X : List UInt8} {a b c d : Nat} (h : HS X a b c d) (ha : a < 4294967296) (hb : b < 4294967296) (hc : c < 4294967296) (hd' : d < 4294967296) : hdw X 0 = a ∧ hdw X 1 = b ∧ hdw X 2 = c ∧ hdw X 3 = d := by
  have e := hd_eq X
  unfold Go.Proofs.YteocmhbllckpjaaGreat.hd at e
  have hs : saysF (byteAt (X.take 64)) (gbF a b c d) := saysF_congr (fun i hi => by
    show mixF (byteAt (sealB a b c d)) (byteAt X) 0 i = _
    unfold mixF byteAt
    rw [if_neg (by omega)]
    simp [List.getD, show i < 64 by omega]) (h.st 0)
  rw [if_neg (by have := h.long; omega), say_of _ a b c d ha hb hc hd' hs] at e
  simp only [Array.mk.injEq, List.cons.injEq, Value.int.injEq, true_and, and_true] at e
  omega
theorem byteAt_take {X Y : List UInt8} (h : X.take 64 = Y) (i : Nat) (hi : i < 64) : byteAt X i = byteAt Y i := by
  unfold byteAt
  rw [← h]
  simp [List.getD, hi]
theorem HS.exact {X : List UInt8} {a b c d : Nat} (h : X.take 64 = sealB a b c d) : HS X a b c d := by
  have hl : 64 ≤ X.length := by
    have := congrArg List.length h
    rw [List.length_take, sealB_length] at this
    omega
  refine ⟨hl, fun k => saysF_congr (fun i hi => ?_) (seal_says a b c d)⟩
  unfold mixF
  rw [byteAt_take h i (by omega)]
  split <;> rfl
theorem putL_get (l : List UInt8) (a : Nat) (d : List UInt8) (i : Nat) : (putL l a d)[i]? = if a ≤ i ∧ i < a + d.length ∧ i < l.length then d[i - a]? else l[i]? := by
  unfold putL
  by_cases c : a < l.length
  · rw [if_pos c, splice_get _ _ _ (by rw [List.length_take]; omega)]
    by_cases c1 : i < a
    · rw [if_pos c1, if_neg (by omega)]
    · rw [if_neg c1]
      by_cases c2 : i < a + (d.take (l.length - a)).length
      · rw [if_pos c2]
        rw [List.length_take] at c2
        rw [if_pos (by omega), List.getElem?_take, if_pos (by omega)]
      · rw [if_neg c2]
        rw [List.length_take] at c2
        by_cases c3 : i < l.length
        · rw [if_neg (by omega)]
        · rw [if_neg (by omega)]
  · rw [if_neg c, if_neg (by omega)]
theorem rsz_get (l : List UInt8) (n i : Nat) (h1 : i < n) (h2 : i < l.length) : (rsz l n)[i]? = l[i]? := by
  unfold rsz
  split
  · rw [List.getElem?_take, if_pos h1]
  · rw [List.getElem?_append_left h2]
theorem byteAt_get {X Y : List UInt8} {i : Nat} (h : X[i]? = Y[i]?) : byteAt X i = byteAt Y i := by unfold byteAt List.getD; rw [h]
/-- A change that leaves the head alone. -/
def Past (c : Ch) : Prop := (c.sector = -1 ∧ 64 ≤ c.size) ∨ 1 ≤ c.sector
theorem take_past {X : List UInt8} {c : Ch} (hc : Past c) (hl : 64 ≤ X.length) (k : Int) : 64 ≤ (takeL X c k).length ∧ ∀ i, i < 64 → (takeL X c k)[i]? = X[i]? := by
  unfold takeL
  by_cases c0 : k ≤ 0
  · rw [if_pos c0]; exact ⟨hl, fun _ _ => rfl⟩
  · rw [if_neg c0]
    rcases hc with ⟨h1, h2⟩ | h1
    · rw [if_pos h1, length_rsz]
      exact ⟨by omega, fun i hi => rsz_get _ _ _ (by omega) (by omega)⟩
    · rw [if_neg (by omega), length_putL]
      exact ⟨hl, fun i hi => by rw [putL_get, if_neg (by omega)]⟩
theorem HS.past {X : List UInt8} {a b c d : Nat} (h : HS X a b c d) {ch : Ch} (hc : Past ch) (k : Int) : HS (takeL X ch k) a b c d :=
  h.congr (take_past hc h.long k).1 (fun i hi => byteAt_get ((take_past hc h.long k).2 i hi))
/-- The head's sector is written over. -/
def hdC (q : List UInt8) : Ch := ⟨nmJ, ((0 : Nat) : Int), 0, q⟩
theorem take_hd {X q : List UInt8} (hq : q.length = 64) (hl : 64 ≤ X.length) (k : Int) : (takeL X (hdC q) k).length = X.length ∧ (∀ i, 64 ≤ i → (takeL X (hdC q) k)[i]? = X[i]?) ∧ (takeL X (hdC q) k = X ∨ ∃ t, t ≤ 64 ∧ ∀ i, i < 64 → byteAt (takeL X (hdC q) k) i = mixF (byteAt q) (byteAt X) t i) := by
  unfold takeL
  by_cases c0 : k ≤ 0
  · rw [if_pos c0]; exact ⟨rfl, fun _ _ => rfl, .inl rfl⟩
  · rw [if_neg c0, if_neg (by show ¬ ((0 : Nat) : Int) = -1; omega), length_putL]
    have hk := arrN_le (k := k) (by omega)
    have hg : ∀ i, (putL X (((0 : Nat) : Int).toNat * 64) (q.take (arrN k)))[i]? = if i < arrN k then q[i]? else X[i]? := fun i => by
      rw [putL_get]
      simp only [Int.toNat_natCast, Nat.zero_mul, Nat.zero_le, true_and, Nat.zero_add, List.length_take, Nat.sub_zero]
      by_cases c1 : i < arrN k
      · rw [if_pos (by omega), if_pos c1, List.getElem?_take, if_pos c1]
      · rw [if_neg (by omega), if_neg c1]
    refine ⟨rfl, fun i hi => ?_, .inr ⟨arrN k, hk.2, fun i hi => ?_⟩⟩
    · show (putL X (((0 : Nat) : Int).toNat * 64) (q.take (arrN k)))[i]? = _
      rw [hg, if_neg (by omega)]
    · show byteAt (putL X (((0 : Nat) : Int).toNat * 64) (q.take (arrN k))) i = _
      unfold mixF
      by_cases c1 : i < arrN k
      · rw [if_pos c1]; exact byteAt_get (by rw [hg, if_pos c1])
      · rw [if_neg c1]; exact byteAt_get (by rw [hg, if_neg c1])
theorem HS.same {X : List UInt8} {a b c d : Nat} (h : HS X a b c d) (k : Int) : HS (takeL X (hdC (sealB a b c d)) k) a b c d := by
  obtain ⟨h1, h2, h3⟩ := take_hd (sealB_length a b c d) h.long k
  rcases h3 with h3 | ⟨t, ht, h3⟩
  · rw [h3]; exact h
  · refine ⟨by rw [h1]; exact h.long, fun j => saysF_congr (fun i hi => ?_) (h.st (max t j))⟩
    unfold mixF
    rw [h3 i (by omega)]
    unfold mixF
    by_cases c1 : i < j
    · rw [if_pos c1, if_pos (by omega)]
    · rw [if_neg c1]
      by_cases c2 : i < t
      · rw [if_pos c2, if_pos (by omega)]
      · rw [if_neg c2, if_neg (by omega)]
theorem HS.new {X : List UInt8} {a b c d a' b' c' d' : Nat} (h : X.take 64 = sealB a b c d) (k : Int) : HS (takeL X (hdC (sealB a' b' c' d')) k) a b c d ∨ HS (takeL X (hdC (sealB a' b' c' d')) k) a' b' c' d' := by
  have hx := HS.exact h
  obtain ⟨h1, h2, h3⟩ := take_hd (sealB_length a' b' c' d') hx.long k
  rcases h3 with h3 | ⟨t, ht, h3⟩
  · rw [h3]; exact .inl hx
  · have e : ∀ i, i < 48 → mixF (byteAt (sealB a' b' c' d')) (byteAt (sealB a b c d)) t i = byteAt (takeL X (hdC (sealB a' b' c' d')) k) i := fun i hi => by
      rw [h3 i (by omega)]
      unfold mixF
      rw [byteAt_take h i (by omega)]
    have fin : ∀ A B C E, saysF (mixF (byteAt (sealB a' b' c' d')) (byteAt (sealB a b c d)) t) (gbF A B C E) → HS (takeL X (hdC (sealB a' b' c' d')) k) A B C E := fun A B C E hs => by
      refine ⟨by rw [h1]; exact hx.long, fun j => saysF_congr (fun i hi => ?_) (mix_again (seal_bytes a' b' c' d') (seal_bytes a b c d) (seal_bytes A B C E) t hs j)⟩
      show mixF (byteAt (sealB A B C E)) (mixF (byteAt (sealB a' b' c' d')) (byteAt (sealB a b c d)) t) j i = mixF (byteAt (sealB A B C E)) (byteAt (takeL X (hdC (sealB a' b' c' d')) k)) j i
      unfold mixF
      split
      · rfl
      · exact e i hi
    rcases mix_says (seal_bytes a' b' c' d') (seal_bytes a b c d) t with hs | hs
    · exact .inr (fin _ _ _ _ hs)
    · exact .inl (fin _ _ _ _ hs)
theorem seal0 : sealB 0 0 0 0 = List.replicate 64 0 := by decide +kernel
theorem pg_rsz {X : List UInt8} {n p : Nat} (h1 : 256 * p ≤ X.length) (h2 : 256 * p ≤ n) (hp : 1 ≤ p) : 256 * p ≤ (rsz X n).length ∧ pgL (rsz X n) p = pgL X p := by
  rw [length_rsz]
  refine ⟨h2, ?_⟩
  show subL _ _ _ = subL _ _ _
  apply List.ext_getElem?
  intro i
  rw [subL_get, subL_get]
  split
  · exact rsz_get _ _ _ (by omega) (by omega)
  · rfl
theorem pg_put {X d : List UInt8} {N k p : Nat} (hN : 1 ≤ N) (hp : 1 ≤ p) (hne : p ≠ N) (h1 : 4 * (N - 1) ≤ k) (h2 : k < 4 * N) (hd : d.length ≤ 64) : pgL (putL X (k * 64) d) p = pgL X p := by
  show subL _ _ _ = subL _ _ _
  apply List.ext_getElem?
  intro i
  rw [subL_get, subL_get]
  split
  · rw [putL_get, if_neg (by omega)]
  · rfl
end Go.Proofs.YteocmhbllckpjaaGreat

namespace Go.Proofs.YteocmhbllckpjaaGreat
open Go.ChangeShapes Go.WideShapes Go.ChangeAt Go.RowKit
set_option linter.unusedVariables false

theorem Pend.run {nm : ByteArray} {P : List UInt8 → Prop} {s : PS} {S : Nat → Stp} {n : Nat} (h : Pend nm P s)
    (hst : ∀ k, k < n → Pend nm P (pst s S k) → (∀ a d, S k = .put nm a d → ∀ c ∈ wchs nm ((pst s S k).see nm) a d.data.toList, ∀ l j, P l → P (takeL l c j)) ∧ (∀ m, S k = .cut nm m → ∀ l j, P l → P (takeL l (cutC nm m) j))) :
    ∀ k, k ≤ n → Pend nm P (pst s S k)
  | 0, _ => h
  | k + 1, hk => by
    have ih := Pend.run h hst k (by omega)
    exact ih.dn (S k) (hst k (by omega) ih).1 (hst k (by omega) ih).2
theorem Pend.runC {nm : ByteArray} {P : List UInt8 → Prop} {s : PS} {S : Nat → Stp} {n : Nat} (h : Pend nm P s)
    (hst : ∀ k, k < n → Pend nm P (pst s S k) → (∀ a d, S k = .put nm a d → ∀ c ∈ wchs nm ((pst s S k).see nm) a d.data.toList, ∀ l j, P l → P (takeL l c j)) ∧ (∀ m, S k = .cut nm m → ∀ l j, P l → P (takeL l (cutC nm m) j))) (k : Nat) (hk : k < n) : Pend nm P ((S k).cr (pst s S k)) := by
  have ih := Pend.run h hst k (by omega)
  exact ih.cr (S k) (hst k hk ih).1 (hst k hk ih).2
theorem Pend.two {P P' : List UInt8 → Prop} {s : PS} {S : Nat → Stp} {n : Nat} {Q : List UInt8 → List UInt8 → Prop} (hD : ∀ k, k < n → Pend nmD P ((S k).cr (pst s S k))) (hJ : ∀ k, k < n → Pend nmJ P' ((S k).cr (pst s S k))) (hq : ∀ x y, P x → P' y → Q x y) : Run Q s S n := fun k hk => (hD k hk).safe (hJ k hk) hq
theorem pend_free {nm : ByteArray} {P : List UInt8 → Prop} {s : PS} (hcs : s.cs = []) (h : P (s.K nm)) : Pend nm P s := ⟨h, fun c hc => by rw [hcs] at hc; cases hc⟩
theorem sec_head {l q : List UInt8} (hq : q.length = 64) : secOf (wseen l 0 q) 0 = q := by
  unfold secOf
  rw [Nat.zero_mul, List.drop_zero, take_wseen0 l q hq]
  unfold splice
  rw [List.take_zero, List.nil_append, Nat.zero_add, hq, List.drop_of_length_le (by simp), List.append_nil]
theorem wchs_head {l q : List UInt8} (hq : q.length = 64) : wchs nmJ l 0 q = wsize nmJ l 64 ++ [hdC q] := by
  unfold wchs
  rw [hq]
  congr 1
  show (List.range' 0 1).map _ = _
  simp only [List.range'_one, List.map_cons, List.map_nil, sec_head hq]
  rfl
theorem wsize_none {nm : ByteArray} {l : List UInt8} {n : Nat} (h : n ≤ l.length) : wsize nm l n = [] := if_neg (by omega)
theorem mem_wsize {nm : ByteArray} {l : List UInt8} {n : Nat} {c : Ch} (h : c ∈ wsize nm l n) : c.sector = -1 ∧ c.size = (n : Int) := by
  unfold wsize at h
  split at h
  · rw [List.mem_singleton.1 h]; exact ⟨rfl, rfl⟩
  · cases h
theorem others_all {nm : ByteArray} {cs : List Ch} (h : ∀ c ∈ cs, isN nm c = true) : others nm cs = [] := by
  unfold others
  rw [List.filter_eq_nil_iff]
  intro c hc
  rw [h c hc]
  decide
theorem head_run {Q : List UInt8 → List UInt8 → Prop} {s : PS} {J q : List UInt8} (hcs : s.cs = []) (hJ : s.K nmJ = J) (hl : 64 ≤ J.length) (hq : q.length = 64) (hQ : ∀ k, Q (s.K nmD) (takeL J (hdC q) k)) : Run Q s (hdSt q) 2 ∧ pst s (hdSt q) 2 = ⟨s.K.set nmJ (wseen J 0 q), []⟩ := by
  have hsee : s.see nmJ = J := by show keepF nmJ (s.K nmJ) s.cs = J; rw [hcs, hJ]; rfl
  have e1 : pst s (hdSt q) 1 = ⟨s.K, [hdC q]⟩ := by
    show (⟨s.K, s.cs ++ wchs nmJ (s.see nmJ) 0 (bstr q).data.toList⟩ : PS) = _
    rw [hcs, hsee, bstr_data, wchs_head hq, wsize_none hl]
    rfl
  have hsafe : Safe Q ⟨s.K, [hdC q]⟩ := fun XD XJ hD hX => by
    have d : XD = s.K nmD := Surv.other (fun c hc => by rw [List.mem_singleton.1 hc]; exact isN_no (nm' := nmJ) rfl neDJ) hD
    obtain ⟨k, hk⟩ := hX
    rw [show isN nmJ (hdC q) = true from isN_self _ _ _ _, if_pos rfl] at hk
    have hk' : XJ = takeL (s.K nmJ) (hdC q) k := hk
    rw [d, hk', hJ]
    exact hQ k
  refine ⟨fun k hk => ?_, ?_⟩
  · rcases (show k = 0 ∨ k = 1 by omega) with rfl | rfl
    · show Safe Q (pst s (hdSt q) 1)
      rw [e1]; exact hsafe
    · show Safe Q (pst s (hdSt q) 1)
      rw [e1]; exact hsafe
  · show (Stp.sync nmJ).dn (pst s (hdSt q) 1) = _
    rw [e1]
    have hs1 : (⟨s.K, [hdC q]⟩ : PS).see nmJ = wseen J 0 q := by
      have := keep_wchs nmJ J q 0 (by omega)
      rw [wchs_head hq, wsize_none hl, List.nil_append] at this
      show keepF nmJ (s.K nmJ) [hdC q] = _
      rw [hJ]; exact this
    show (⟨s.K.set nmJ ((⟨s.K, [hdC q]⟩ : PS).see nmJ), others nmJ [hdC q]⟩ : PS) = _
    rw [hs1, others_all (fun c hc => by rw [List.mem_singleton.1 hc]; exact isN_self _ _ _ _)]
/-- A database of which only pages that are kept aside were touched. -/
def Intact (db : List UInt8) (old : Nat) (tl : List Nat) (X : List UInt8) : Prop := ∀ p, 1 ≤ p → p ≤ old → p ∉ tl → 256 * p ≤ X.length ∧ pgL X p = pgL db p
theorem Intact.put {db X see d : List UInt8} {old N : Nat} {tl : List Nat} (h : Intact db old tl X) (hs : Intact db old tl see) (hN : 1 ≤ N) (ht : N ∈ tl ∨ old < N) (hd : d.length = 256) {c : Ch} (hc : c ∈ wchs nmD see (256 * (N - 1)) d) (k : Int) : Intact db old tl (takeL X c k) := fun p p1 p2 p3 => by
  obtain ⟨q1, q2⟩ := h p p1 p2 p3
  have hne : p ≠ N := fun e => by
    rcases ht with ht | ht
    · exact p3 (e ▸ ht)
    · omega
  unfold takeL
  by_cases c0 : k ≤ 0
  · rw [if_pos c0]; exact ⟨q1, q2⟩
  rw [if_neg c0]
  unfold wchs at hc
  rcases List.mem_append.1 hc with hc | hc
  · unfold wsize at hc
    split at hc
    · rename_i hlt
      have e := List.mem_singleton.1 hc
      have hsz : c.size = ((256 * (N - 1) + d.length : Nat) : Int) := by rw [e]
      have hse : c.sector = -1 := by rw [e]
      rw [if_pos hse]
      have hp4 := (hs p p1 p2 p3).1
      have := pg_rsz (n := c.size.toNat) q1 (by rw [hsz]; omega) p1
      exact ⟨this.1, by rw [this.2]; exact q2⟩
    · cases hc
  · unfold secs at hc
    obtain ⟨j, hj, rfl⟩ := List.mem_map.1 hc
    rw [List.mem_range'_1] at hj
    rw [if_neg (by show ¬ (j : Int) = -1; omega), length_putL]
    refine ⟨q1, ?_⟩
    have hk := arrN_le (k := k) (by omega)
    have := pg_put (X := X) (d := List.take (arrN k) (secOf (wseen see (256 * (N - 1)) d) j)) hN p1 hne (k := j) (by omega) (by omega) (by rw [List.length_take]; omega)
    show pgL (putL X ((j : Int).toNat * 64) (List.take (arrN k) (secOf (wseen see (256 * (N - 1)) d) j))) p = _
    rw [Int.toNat_natCast, this]; exact q2
theorem Intact.cut {db X : List UInt8} {old n : Nat} {tl : List Nat} (h : Intact db old tl X) (hn : ∀ p, 1 ≤ p → p ≤ old → p ∉ tl → p ≤ n) (k : Int) : Intact db old tl (takeL X (cutC nmD (256 * n)) k) := fun p p1 p2 p3 => by
  obtain ⟨q1, q2⟩ := h p p1 p2 p3
  unfold takeL
  by_cases c0 : k ≤ 0
  · rw [if_pos c0]; exact ⟨q1, q2⟩
  rw [if_neg c0, if_pos (show (cutC nmD (256 * n)).sector = -1 from rfl)]
  have := hn p p1 p2 p3
  have := pg_rsz (X := X) (n := (cutC nmD (256 * n)).size.toNat) q1 (by show _ ≤ ((256 * n : Nat) : Int).toNat; omega) p1
  exact ⟨this.1, by rw [this.2]; exact q2⟩

def dbS (cnt n : Nat) (N : Nat → Nat) (L : Nat → List UInt8) : Nat → Stp := catS (pgS N L) n (fun k => match k with | 0 => .cut nmD (256 * cnt) | _ => .sync nmD)
/-- The database is changed, while the journal is hot. -/
theorem db_run {Q : List UInt8 → List UInt8 → Prop} {db X J : List UInt8} {old cnt n : Nat} {tl : List Nat} {N : Nat → Nat} {L : Nat → List UInt8} (hL : ∀ j, j < n → (L j).length = 256) (hN : ∀ j, j < n → 1 ≤ N j ∧ (N j ∈ tl ∨ old < N j)) (hcn : ∀ p, 1 ≤ p → p ≤ old → p ∉ tl → p ≤ cnt) {s : PS} (hcs : s.cs = []) (hD : s.K nmD = X) (hJ : s.K nmJ = J) (hI : Intact db old tl X) (hQ : ∀ Y, Intact db old tl Y → Q Y J) :
    Run Q s (dbS cnt n N L) (n + 2) ∧ (pst s (dbS cnt n N L) (n + 2)).cs = [] ∧ (pst s (dbS cnt n N L) (n + 2)).K nmJ = J ∧ Intact db old tl ((pst s (dbS cnt n N L) (n + 2)).K nmD) := by
  obtain ⟨S, hS⟩ : ∃ S, S = dbS cnt n N L := ⟨_, rfl⟩
  rw [← hS]
  have hform : ∀ k, k < n + 2 → (∃ j, j < n ∧ k = j ∧ S k = .put nmD (256 * (N j - 1)) (bstr (L j))) ∨ (k = n ∧ S k = .cut nmD (256 * cnt)) ∨ (k = n + 1 ∧ S k = .sync nmD) := fun k hk => by
    rw [hS]
    unfold dbS
    by_cases c1 : k < n
    · rw [catS_lt c1]; exact .inl ⟨k, c1, rfl, rfl⟩
    · obtain ⟨j, rfl⟩ : ∃ j, k = n + j := ⟨k - n, by omega⟩
      rw [catS_ge]
      rcases (show j = 0 ∨ j = 1 by omega) with rfl | rfl
      · exact .inr (.inl ⟨rfl, rfl⟩)
      · exact .inr (.inr ⟨rfl, rfl⟩)
  have stD : ∀ k, k < n + 2 → Pend nmD (Intact db old tl) (pst s S k) → (∀ a d, S k = .put nmD a d → ∀ c ∈ wchs nmD ((pst s S k).see nmD) a d.data.toList, ∀ l j, Intact db old tl l → Intact db old tl (takeL l c j)) ∧ (∀ m, S k = .cut nmD m → ∀ l j, Intact db old tl l → Intact db old tl (takeL l (cutC nmD m) j)) := fun k hk hp => by
    rcases hform k hk with ⟨j, hj, rfl, e⟩ | ⟨rfl, e⟩ | ⟨rfl, e⟩
    · rw [e]
      refine ⟨fun a d e2 c hm l i hl => ?_, fun n e2 => (by cases e2)⟩
      cases e2
      rw [bstr_data] at hm
      exact Intact.put hl hp.see (hN k hj).1 (hN k hj).2 (hL k hj) hm i
    · rw [e]
      refine ⟨fun a d e2 => (by cases e2), fun n e2 l i hl => ?_⟩
      cases e2
      exact hl.cut hcn i
    · rw [e]; exact ⟨fun a d e2 => (by cases e2), fun n e2 => (by cases e2)⟩
  have stJ : ∀ k, k < n + 2 → Pend nmJ (fun Y => Y = J) (pst s S k) → (∀ a d, S k = .put nmJ a d → ∀ c ∈ wchs nmJ ((pst s S k).see nmJ) a d.data.toList, ∀ l j, l = J → takeL l c j = J) ∧ (∀ m, S k = .cut nmJ m → ∀ l j, l = J → takeL l (cutC nmJ m) j = J) := fun k hk _ => by
    rcases hform k hk with ⟨j, hj, rfl, e⟩ | ⟨rfl, e⟩ | ⟨rfl, e⟩
    · rw [e]; exact ⟨fun a d e2 => absurd (Stp.put.inj e2).1 neDJ, fun n e2 => (by cases e2)⟩
    · rw [e]; exact ⟨fun a d e2 => (by cases e2), fun n e2 => absurd (Stp.cut.inj e2).1 neDJ⟩
    · rw [e]; exact ⟨fun a d e2 => (by cases e2), fun n e2 => (by cases e2)⟩
  have pD := pend_free (nm := nmD) (P := Intact db old tl) hcs (by rw [hD]; exact hI)
  have pJ := pend_free (nm := nmJ) (P := fun Y => Y = J) hcs hJ
  have names : ∀ k, k ≤ n + 1 → ∀ c ∈ (pst s S k).cs, isN nmD c = true := fun k => by
    induction k with
    | zero => intro _ c h; rw [show pst s S 0 = s from rfl, hcs] at h; cases h
    | succ k ih =>
      intro hk c h
      have ih2 := ih (by omega)
      have h' : c ∈ ((S k).dn (pst s S k)).cs := h
      rcases hform k (by omega) with ⟨j, hj, rfl, e⟩ | ⟨rfl, e⟩ | ⟨e', e⟩
      · rw [e] at h'
        rcases List.mem_append.1 h' with h' | h'
        · exact ih2 c h'
        · rw [show nmD = c.name from (wchs_name h').symm]; exact isN_name rfl
      · rw [e] at h'
        rcases List.mem_append.1 h' with h' | h'
        · exact ih2 c h'
        · have h2 : c ∈ (if 256 * cnt = ((pst s S k).see nmD).length then [] else [cutC nmD (256 * cnt)]) := h'
          split at h2
          · cases h2
          · rw [List.mem_singleton.1 h2]; exact isN_self _ _ _ _
      · omega
  refine ⟨Pend.two (fun k hk => pD.runC stD k hk) (fun k hk => pJ.runC stJ k hk) (fun x y hx hy => by rw [hy]; exact hQ x hx), ?_, (pJ.run stJ (n + 2) (Nat.le_refl _)).here, (pD.run stD (n + 2) (Nat.le_refl _)).here⟩
  show ((S (n + 1)).dn (pst s S (n + 1))).cs = []
  rcases hform (n + 1) (by omega) with ⟨j, hj, e', e⟩ | ⟨e', e⟩ | ⟨_, e⟩
  · omega
  · omega
  · rw [e]; exact others_all (names (n + 1) (Nat.le_refl _))
/-- The log's head says that so many frames count, however often it is written anew. -/
def Hk (X : List UInt8) (K : Nat) : Prop := (K = 0 ∧ X = []) ∨ HS X K 0 0 0
theorem Hk.hd {X : List UInt8} {K : Nat} (h : Hk X K) (hK : K < 4294967296) : hdw X 0 = K ∧ hdw X 1 = 0 ∧ hdw X 2 = 0 ∧ hdw X 3 = 0 := by
  rcases h with ⟨rfl, rfl⟩ | h
  · exact ⟨rfl, rfl, rfl, rfl⟩
  · exact h.hd hK (by omega) (by omega) (by omega)
theorem Hk.past {X : List UInt8} {K : Nat} (h : Hk X K) {c : Ch} (hc : Past c) (k : Int) : Hk (takeL X c k) K := by
  rcases h with ⟨rfl, rfl⟩ | h
  · unfold takeL
    by_cases c0 : k ≤ 0
    · rw [if_pos c0]; exact .inl ⟨rfl, rfl⟩
    · rw [if_neg c0]
      rcases hc with ⟨h1, h2⟩ | h1
      · rw [if_pos h1]
        refine .inr (HS.exact ?_)
        unfold rsz
        rw [if_neg (by simp; omega), seal0, List.nil_append, List.take_replicate]
        congr 1
        simp
        omega
      · rw [if_neg (by omega)]
        unfold putL
        rw [if_neg (by simp)]
        exact .inl ⟨rfl, rfl⟩
  · exact .inr (h.past hc k)
theorem Hk.same {X : List UInt8} {K : Nat} (h : Hk X K) (k : Int) : Hk (takeL X (hdC (sealB K 0 0 0)) k) K := by
  rcases h with ⟨rfl, rfl⟩ | h
  · unfold takeL
    by_cases c0 : k ≤ 0
    · rw [if_pos c0]; exact .inl ⟨rfl, rfl⟩
    · rw [if_neg c0, if_neg (by show ¬ ((0 : Nat) : Int) = -1; omega)]
      unfold putL
      rw [if_neg (by simp)]
      exact .inl ⟨rfl, rfl⟩
  · exact .inr (h.same k)
/-- The frames that lie in a log. -/
structure Fr0 (X : List UInt8) (K : Nat) (N E : Nat → Nat) (P : Nat → List UInt8) : Prop where
  fr : ∀ k, k < K → subL X (64 + 320 * k) 320 = frB (N k) (E k) (P k)
  len : K = 0 ∨ 64 + 320 * K ≤ X.length
theorem Fr0.of {X Y : List UInt8} {K : Nat} {N E : Nat → Nat} {P : Nat → List UInt8} (h : Fr0 X K N E P) (hl : K = 0 ∨ 64 + 320 * K ≤ Y.length) (he : ∀ i, 64 ≤ i → i < 64 + 320 * K → Y[i]? = X[i]?) : Fr0 Y K N E P := by
  refine ⟨fun k hk => ?_, hl⟩
  rw [← h.fr k hk]
  apply List.ext_getElem?
  intro i
  rw [subL_get, subL_get]
  split
  · exact he _ (by omega) (by omega)
  · rfl
theorem Fr0.hd {X q : List UInt8} {K : Nat} {N E : Nat → Nat} {P : Nat → List UInt8} (h : Fr0 X K N E P) (hq : q.length = 64) (k : Int) : Fr0 (takeL X (hdC q) k) K N E P := by
  rcases h.len with rfl | hl
  · exact ⟨fun k hk => by omega, .inl rfl⟩
  · obtain ⟨h1, h2, h3⟩ := take_hd (X := X) hq (by omega) k
    exact h.of (.inr (by rw [h1]; exact hl)) (fun i h64 _ => h2 i h64)
/-- A change that leaves the frames alone that count. -/
def Beyond (K : Nat) (c : Ch) : Prop := (c.sector = -1 ∧ ((64 + 320 * K : Nat) : Int) ≤ c.size) ∨ ((1 + 5 * K : Nat) : Int) ≤ c.sector
theorem Beyond.past {K : Nat} {c : Ch} (h : Beyond K c) : Past c := by
  rcases h with ⟨h1, h2⟩ | h
  · exact .inl ⟨h1, by omega⟩
  · exact .inr (by omega)
theorem Fr0.beyond {X : List UInt8} {K : Nat} {N E : Nat → Nat} {P : Nat → List UInt8} (h : Fr0 X K N E P) {c : Ch} (hc : Beyond K c) (k : Int) : Fr0 (takeL X c k) K N E P := by
  rcases h.len with rfl | hl
  · exact ⟨fun k hk => by omega, .inl rfl⟩
  unfold takeL
  by_cases c0 : k ≤ 0
  · rw [if_pos c0]; exact h
  · rw [if_neg c0]
    rcases hc with ⟨h1, h2⟩ | h1
    · rw [if_pos h1]
      exact h.of (.inr (by rw [length_rsz]; omega)) (fun i _ hi => rsz_get _ _ _ (by omega) (by omega))
    · rw [if_neg (by omega)]
      exact h.of (.inr (by rw [length_putL]; exact hl)) (fun i _ hi => by rw [putL_get, if_neg (by omega)])
/-- A log, as crashes leave it. -/
def Lgx (X : List UInt8) (K : Nat) (N E : Nat → Nat) (P : Nat → List UInt8) : Prop := Hk X K ∧ Fr0 X K N E P
theorem Lgx.lgf {X : List UInt8} {K : Nat} {N E : Nat → Nat} {P : Nat → List UInt8} (h : Lgx X K N E P) (hK : K ≤ 180) (ha : Fra N E P) (he : K = 0 ∨ E (K - 1) ≠ 0) : Lgf X K N E P :=
  ⟨h.1.hd (by omega), hK, h.2.len, h.2.fr, ha, he⟩
theorem Lgx.beyond {X : List UInt8} {K : Nat} {N E : Nat → Nat} {P : Nat → List UInt8} (h : Lgx X K N E P) {c : Ch} (hc : Beyond K c) (k : Int) : Lgx (takeL X c k) K N E P := ⟨h.1.past hc.past k, h.2.beyond hc k⟩
theorem Lgx.same {X : List UInt8} {K : Nat} {N E : Nat → Nat} {P : Nat → List UInt8} (h : Lgx X K N E P) (k : Int) : Lgx (takeL X (hdC (sealB K 0 0 0)) k) K N E P := ⟨h.1.same k, h.2.hd (sealB_length _ _ _ _) k⟩
theorem Lgx.congr {X : List UInt8} {K : Nat} {N E N' E' : Nat → Nat} {P P' : Nat → List UInt8} (h : Lgx X K N E P) (e : ∀ k, k < K → N k = N' k ∧ E k = E' k ∧ P k = P' k) : Lgx X K N' E' P' :=
  ⟨h.1, fun k hk => by obtain ⟨a, b, c⟩ := e k hk; rw [← a, ← b, ← c]; exact h.2.fr k hk, h.2.len⟩
theorem Lgx.zero {X : List UInt8} {N E : Nat → Nat} {P : Nat → List UInt8} (h : Hk X 0) : Lgx X 0 N E P := ⟨h, fun k hk => by omega, .inl rfl⟩
/-- The head is written anew, while nothing is under way. -/
theorem renew_run {Q : List UInt8 → List UInt8 → Prop} {s : PS} {l : List UInt8} {K : Nat} {N E : Nat → Nat} {P : Nat → List UInt8} (hcs : s.cs = []) (hJ : s.K nmJ = l) (hl : Lgx l K N E P) (hQ : ∀ X, Lgx X K N E P → Q (s.K nmD) X) :
    Run Q s (hdSt (sealB K 0 0 0)) 2 ∧ pst s (hdSt (sealB K 0 0 0)) 2 = ⟨s.K.set nmJ (wseen l 0 (sealB K 0 0 0)), []⟩ ∧ (wseen l 0 (sealB K 0 0 0)).take 64 = sealB K 0 0 0 ∧ Fr0 (wseen l 0 (sealB K 0 0 0)) K N E P ∧ (wseen l 0 (sealB K 0 0 0)).length = max l.length 64 := by
  have hq := sealB_length K 0 0 0
  have hsee : s.see nmJ = l := by show keepF nmJ (s.K nmJ) s.cs = l; rw [hcs, hJ]; rfl
  have e1 : pst s (hdSt (sealB K 0 0 0)) 1 = ⟨s.K, wsize nmJ l 64 ++ [hdC (sealB K 0 0 0)]⟩ := by
    show (⟨s.K, s.cs ++ wchs nmJ (s.see nmJ) 0 (bstr (sealB K 0 0 0)).data.toList⟩ : PS) = _
    rw [hcs, hsee, bstr_data, wchs_head hq]
    rfl
  have names : ∀ c ∈ wsize nmJ l 64 ++ [hdC (sealB K 0 0 0)], c.name = nmJ := fun c hc => by
    rw [← wchs_head hq] at hc
    exact wchs_name hc
  have hsafe : Safe Q ⟨s.K, wsize nmJ l 64 ++ [hdC (sealB K 0 0 0)]⟩ := fun XD XJ hD hX => by
    have d : XD = s.K nmD := Surv.other (fun c hc => isN_no (names c hc) neDJ) hD
    rw [d]
    refine hQ _ (Surv.inv (P := fun X => Lgx X K N E P) (fun c hc _ X k hX => ?_) (by rw [hJ]; exact hl) hX)
    rcases List.mem_append.1 hc with hc | hc
    · have hm := mem_wsize hc
      refine ⟨hX.1.past (.inl ⟨hm.1, by rw [hm.2]; omega⟩) k, ?_⟩
      rcases hX.2.len with rfl | hl2
      · exact ⟨fun k hk => by omega, .inl rfl⟩
      · rcases hl.2.len with e0 | hl3
        · subst e0
          exact ⟨fun k hk => by omega, .inl rfl⟩
        · rw [wsize_none (by omega)] at hc
          cases hc
    · rw [List.mem_singleton.1 hc]; exact hX.same k
  refine ⟨fun k hk => ?_, ?_, take_wseen0 _ _ hq, ?_, by rw [length_wseen, hq]⟩
  · rcases (show k = 0 ∨ k = 1 by omega) with rfl | rfl
    · show Safe Q (pst s (hdSt (sealB K 0 0 0)) 1)
      rw [e1]; exact hsafe
    · show Safe Q (pst s (hdSt (sealB K 0 0 0)) 1)
      rw [e1]; exact hsafe
  · show (Stp.sync nmJ).dn (pst s (hdSt (sealB K 0 0 0)) 1) = _
    rw [e1]
    have hs1 : (⟨s.K, wsize nmJ l 64 ++ [hdC (sealB K 0 0 0)]⟩ : PS).see nmJ = wseen l 0 (sealB K 0 0 0) := by
      have := keep_wchs nmJ l (sealB K 0 0 0) 0 (by omega)
      rw [wchs_head hq] at this
      show keepF nmJ (s.K nmJ) (wsize nmJ l 64 ++ [hdC (sealB K 0 0 0)]) = _
      rw [hJ]; exact this
    show (⟨s.K.set nmJ ((⟨s.K, wsize nmJ l 64 ++ [hdC (sealB K 0 0 0)]⟩ : PS).see nmJ), others nmJ (wsize nmJ l 64 ++ [hdC (sealB K 0 0 0)])⟩ : PS) = _
    rw [hs1, others_all (fun c hc => by rw [show nmJ = c.name from (names c hc).symm]; exact isN_name rfl)]
  · rcases hl.2.len with rfl | hl2
    · exact ⟨fun k hk => by omega, .inl rfl⟩
    · refine hl.2.of (.inr (by rw [length_wseen, hq]; omega)) (fun i h64 hi => ?_)
      unfold wseen
      rw [splice_get _ _ _ (by rw [length_grownTo, hq]; omega), if_neg (by omega), if_neg (by omega), grown_get _ _ _ (by omega)]
/-- The frames that a commit lays. -/
def frS (K : Nat) (N E : Nat → Nat) (P : Nat → List UInt8) : Nat → Stp := fun j => .put nmJ (64 + 320 * (K + j)) (bstr (frB (N (K + j)) (E (K + j)) (P (K + j))))
/-- The steps of a commit. -/
def grwS (K m : Nat) (N E : Nat → Nat) (P : Nat → List UInt8) : Nat → Stp := catS (catS (hdSt (sealB K 0 0 0)) 2 (frS K N E P)) (2 + m) (tailS (K + m) 0)
theorem frs_view (f : Vw) (K : Nat) (N E : Nat → Nat) (P : Nat → List UInt8) (hP : ∀ k, (P k).length = 256) (hf : (f nmJ).take 64 = sealB K 0 0 0) (hF : Fr0 (f nmJ) K N E P) : ∀ k,
    (vw f (frS K N E P) k nmJ).take 64 = sealB K 0 0 0 ∧ Fr0 (vw f (frS K N E P) k nmJ) (K + k) N E P ∧ 64 ≤ (vw f (frS K N E P) k nmJ).length ∧ (vw f (frS K N E P) k nmJ).length ≤ max (f nmJ).length (64 + 320 * (K + k)) ∧ vw f (frS K N E P) k nmD = f nmD
  | 0 => ⟨hf, hF, by have := congrArg List.length hf; rw [List.length_take, sealB_length] at this; show 64 ≤ (f nmJ).length; omega, by show (f nmJ).length ≤ _; omega, rfl⟩
  | k + 1 => by
    obtain ⟨h1, h2, h3, h4, h5⟩ := frs_view f K N E P hP hf hF k
    have e : vw f (frS K N E P) (k + 1) = (vw f (frS K N E P) k).set nmJ (wseen (vw f (frS K N E P) k nmJ) (64 + 320 * (K + k)) (frB (N (K + k)) (E (K + k)) (P (K + k)))) := by
      show (vw f (frS K N E P) k).set nmJ (wseen (vw f (frS K N E P) k nmJ) (64 + 320 * (K + k)) (bstr (frB (N (K + k)) (E (K + k)) (P (K + k)))).data.toList) = _
      rw [bstr_data]
    have hl := frB_length (N (K + k)) (E (K + k)) (hP (K + k))
    rw [e, set_same, set_other _ neDJ]
    generalize vw f (frS K N E P) k nmJ = V at h1 h2 h3 h4
    refine ⟨?_, ⟨fun j hj => ?_, .inr (by rw [length_wseen, hl]; omega)⟩, by rw [length_wseen]; omega, by rw [length_wseen, hl]; omega, h5⟩
    · rw [← subL_zero, subL_wseen_off _ _ _ _ _ (.inl (by omega)) (by omega), subL_zero]; exact h1
    · by_cases c : j = K + k
      · subst c; exact subL_wseen_at _ _ _ _ hl
      · have hjl : 64 + 320 * (K + k) ≤ V.length := by rcases h2.len with e0 | h; omega; exact h
        rw [subL_wseen_off _ _ _ _ _ (.inl (by omega)) (by omega)]
        exact h2.fr j (by omega)
/-- What a crash may leave of a commit. -/
def GoodG (db : List UInt8) (K m : Nat) (N E : Nat → Nat) (P : Nat → List UInt8) (XD XJ : List UInt8) : Prop := XD = db ∧ (Lgx XJ K N E P ∨ Lgx XJ (K + m) N E P)
theorem grw_put {K m : Nat} {N E : Nat → Nat} {P : Nat → List UInt8} (hP : ∀ k, (P k).length = 256) : PutsOk (grwS K m N E P) (2 + m + 3) := fun k hk nm a d e => by
  unfold grwS catS at e
  split at e
  · split at e
    · match k, e with
      | 0, e => cases e; rw [bstr_size, sealB_length]; omega
      | 1, e => cases e
    · cases e
      rw [bstr_size, frB_length _ _ (hP _)]; omega
  · generalize k - (2 + m) = j at e
    match j, e with
    | 0, e => cases e
    | 1, e => cases e; rw [bstr_size, sealB_length]; omega
    | j + 2, e => cases e
theorem grw_split {K m : Nat} {N E : Nat → Nat} {P : Nat → List UInt8} : grwS K m N E P = catS (catS (hdSt (sealB K 0 0 0)) 2 (catS (frS K N E P) m (fun _ => .sync nmJ))) (2 + m + 1) (hdSt (sealB (K + m) 0 0 0)) := by
  funext k
  unfold grwS
  by_cases c1 : k < 2 + m
  · rw [catS_lt c1, catS_lt (show k < 2 + m + 1 by omega)]
    by_cases c2 : k < 2
    · rw [catS_lt c2, catS_lt c2]
    · obtain ⟨j, rfl⟩ : ∃ j, k = 2 + j := ⟨k - 2, by omega⟩
      rw [catS_ge, catS_ge, catS_lt (by omega)]
  · obtain ⟨j, rfl⟩ : ∃ j, k = 2 + m + j := ⟨k - (2 + m), by omega⟩
    rw [catS_ge]
    match j with
    | 0 => rw [catS_lt (by omega), show 2 + m + 0 = 2 + (m + 0) by omega, catS_ge, catS_ge]; rfl
    | 1 => rw [show 2 + m + 1 = 2 + m + 1 + 0 by omega, catS_ge]; rfl
    | j + 2 => rw [show 2 + m + (j + 2) = 2 + m + 1 + (j + 1) by omega, catS_ge]; rfl
/-- The frames of a commit are laid and synced, wherever it crashes. -/
theorem frs_run {db : List UInt8} {J : List UInt8} {K m : Nat} {N E : Nat → Nat} {P : Nat → List UInt8} (hP : ∀ k, (P k).length = 256) {s : PS} (hcs : s.cs = []) (hD : s.K nmD = db) (hJ : s.K nmJ = J) (hl : Lgx J K N E P) :
    Run (GoodG db K m N E P) s (catS (frS K N E P) m (fun _ => .sync nmJ)) (m + 1) ∧ (pst s (catS (frS K N E P) m (fun _ => .sync nmJ)) (m + 1)).cs = [] ∧ (pst s (catS (frS K N E P) m (fun _ => .sync nmJ)) (m + 1)).K nmD = db := by
  obtain ⟨S, hS⟩ : ∃ S, S = catS (frS K N E P) m (fun _ => Stp.sync nmJ) := ⟨_, rfl⟩
  rw [← hS]
  have hform : ∀ k, k < m + 1 → (k = m ∧ S k = .sync nmJ) ∨ (k < m ∧ S k = .put nmJ (64 + 320 * (K + k)) (bstr (frB (N (K + k)) (E (K + k)) (P (K + k))))) := fun k hk => by
    rw [hS]
    by_cases c1 : k < m
    · rw [catS_lt c1]; exact .inr ⟨c1, rfl⟩
    · obtain ⟨j, rfl⟩ : ∃ j, k = m + j := ⟨k - m, by omega⟩
      rw [catS_ge]
      exact .inl ⟨by omega, rfl⟩
  have stJ : ∀ k, k < m + 1 → Pend nmJ (fun X => Lgx X K N E P) (pst s S k) → (∀ a d, S k = .put nmJ a d → ∀ c ∈ wchs nmJ ((pst s S k).see nmJ) a d.data.toList, ∀ l j, Lgx l K N E P → Lgx (takeL l c j) K N E P) ∧ (∀ m, S k = .cut nmJ m → ∀ l j, Lgx l K N E P → Lgx (takeL l (cutC nmJ m) j) K N E P) := fun k hk _ => by
    rcases hform k hk with ⟨_, e⟩ | ⟨hk2, e⟩
    · rw [e]; exact ⟨fun a d e2 => (by cases e2), fun n e2 => (by cases e2)⟩
    · rw [e]
      refine ⟨fun a d e2 c hm l i hl => ?_, fun n e2 => by cases e2⟩
      cases e2
      refine hl.beyond ?_ i
      rw [bstr_data] at hm
      unfold wchs at hm
      rw [frB_length _ _ (hP _)] at hm
      rcases List.mem_append.1 hm with hm | hm
      · have := mem_wsize hm
        exact .inl ⟨this.1, by rw [this.2]; omega⟩
      · unfold secs at hm
        obtain ⟨q, hq, rfl⟩ := List.mem_map.1 hm
        rw [List.mem_range'_1] at hq
        exact .inr (by show ((1 + 5 * K : Nat) : Int) ≤ (q : Int); omega)
  have stD : ∀ k, k < m + 1 → Pend nmD (fun X => X = db) (pst s S k) → (∀ a d, S k = .put nmD a d → ∀ c ∈ wchs nmD ((pst s S k).see nmD) a d.data.toList, ∀ l j, l = db → takeL l c j = db) ∧ (∀ m, S k = .cut nmD m → ∀ l j, l = db → takeL l (cutC nmD m) j = db) := fun k hk _ => by
    rcases hform k hk with ⟨_, e⟩ | ⟨hk2, e⟩
    · rw [e]; exact ⟨fun a d e2 => (by cases e2), fun n e2 => (by cases e2)⟩
    · rw [e]; exact ⟨fun a d e2 => absurd (Stp.put.inj e2).1 (Ne.symm neDJ), fun n e2 => by cases e2⟩
  have pJ := pend_free (nm := nmJ) (P := fun X => Lgx X K N E P) hcs (by rw [hJ]; exact hl)
  have pD := pend_free (nm := nmD) (P := fun X => X = db) hcs hD
  have names : ∀ k, k ≤ m → ∀ c ∈ (pst s S k).cs, isN nmJ c = true := fun k => by
    induction k with
    | zero => intro _ c h; rw [show pst s S 0 = s from rfl, hcs] at h; cases h
    | succ k ih =>
      intro hk c h
      have ih2 := ih (by omega)
      have h' : c ∈ ((S k).dn (pst s S k)).cs := h
      rcases hform k (by omega) with ⟨e', e⟩ | ⟨hk2, e⟩
      · omega
      · rw [e] at h'
        rcases List.mem_append.1 h' with h' | h'
        · exact ih2 c h'
        · rw [show nmJ = c.name from (wchs_name h').symm]; exact isN_name rfl
  refine ⟨Pend.two (fun k hk => pD.runC stD k hk) (fun k hk => pJ.runC stJ k hk) (fun x y hx hy => ⟨hx, .inl hy⟩), ?_, (pD.run stD (m + 1) (Nat.le_refl _)).here⟩
  show ((S m).dn (pst s S m)).cs = []
  rcases hform m (by omega) with ⟨_, e⟩ | ⟨h2, _⟩
  · rw [e]; exact others_all (names m (Nat.le_refl _))
  · omega
/-- All steps of a commit, wherever it crashes. -/
theorem grow_run {db l : List UInt8} {K m : Nat} {N E : Nat → Nat} {P : Nat → List UInt8} (hP : ∀ k, (P k).length = 256) {s : PS} (hcs : s.cs = []) (hD : s.K nmD = db) (hJ : s.K nmJ = l) (hl : Lgx l K N E P) :
    Run (GoodG db K m N E P) s (grwS K m N E P) (2 + m + 3) ∧ (pst s (grwS K m N E P) (2 + m + 3)).cs = [] ∧ (pst s (grwS K m N E P) (2 + m + 3)).K nmD = db ∧ Lgx ((pst s (grwS K m N E P) (2 + m + 3)).K nmJ) (K + m) N E P ∧ ((pst s (grwS K m N E P) (2 + m + 3)).K nmJ).length ≤ max (max l.length 64) (64 + 320 * (K + m)) := by
  obtain ⟨r1, p1, t1, f1, l1⟩ := renew_run (Q := GoodG db K m N E P) hcs hJ hl (fun X hX => ⟨hD, .inl hX⟩)
  obtain ⟨s1, hs1⟩ : ∃ s1, s1 = pst s (hdSt (sealB K 0 0 0)) 2 := ⟨_, rfl⟩
  rw [← hs1] at p1
  have hK1J : s1.K nmJ = wseen l 0 (sealB K 0 0 0) := by rw [p1]; exact set_same s.K nmJ (wseen l 0 (sealB K 0 0 0))
  have hK1D : s1.K nmD = db := by rw [p1]; exact (set_other s.K neDJ (wseen l 0 (sealB K 0 0 0))).trans hD
  have hc1 : s1.cs = [] := by rw [p1]
  have hl1 : Lgx (wseen l 0 (sealB K 0 0 0)) K N E P := ⟨.inr (HS.exact t1), f1⟩
  obtain ⟨r2, c2, d2⟩ := frs_run (m := m) hP hc1 hK1D hK1J hl1
  obtain ⟨s2, hs2⟩ : ∃ s2, s2 = pst s1 (catS (frS K N E P) m (fun _ => .sync nmJ)) (m + 1) := ⟨_, rfl⟩
  have hput : PutsOk (catS (frS K N E P) m (fun _ => .sync nmJ)) (m + 1) := fun k hk nm a d e => by
    unfold catS at e
    split at e
    · cases e; rw [bstr_size, frB_length _ _ (hP _)]; omega
    · cases e
  have hse := see_pst s1 (catS (frS K N E P) m (fun _ => .sync nmJ)) (m + 1) hput (m + 1) (Nat.le_refl _)
  rw [← hs2] at c2 d2 hse
  have hs1J : s1.see nmJ = wseen l 0 (sealB K 0 0 0) := by show keepF nmJ (s1.K nmJ) s1.cs = _; rw [hc1, hK1J]; rfl
  obtain ⟨v1, v2, v3, v4, v5⟩ := frs_view s1.see K N E P hP (by rw [hs1J]; exact t1) (by rw [hs1J]; exact f1) m
  have hvw : vw s1.see (catS (frS K N E P) m (fun _ => .sync nmJ)) (m + 1) nmJ = vw s1.see (frS K N E P) m nmJ := by
    rw [vw_add]; rfl
  have hK2J : s2.K nmJ = vw s1.see (frS K N E P) m nmJ := by
    rw [← hvw, ← hse]
    show _ = keepF nmJ (s2.K nmJ) s2.cs
    rw [c2]; rfl
  rw [hs1J, l1] at v4
  generalize vw s1.see (frS K N E P) m nmJ = V at v1 v2 v3 v4 hK2J
  obtain ⟨r3, p3⟩ := head_run (Q := GoodG db K m N E P) (s := s2) (q := sealB (K + m) 0 0 0) c2 hK2J v3 (sealB_length _ _ _ _) (fun k => by
    refine ⟨d2, ?_⟩
    have hf := v2.hd (sealB_length (K + m) 0 0 0) k
    rcases HS.new (a' := K + m) (b' := 0) (c' := 0) (d' := 0) v1 k with h | h
    · refine .inl ⟨.inr h, fun j hj => hf.fr j (by omega), ?_⟩
      rcases hf.len with e | e
      · exact .inl (by omega)
      · exact .inr (by omega)
    · exact .inr ⟨.inr h, hf⟩)
  have hpst : pst s (grwS K m N E P) (2 + m + 3) = ⟨s2.K.set nmJ (wseen V 0 (sealB (K + m) 0 0 0)), []⟩ := by
    rw [grw_split, show 2 + m + 3 = 2 + m + 1 + 2 by omega, pst_add, show 2 + m + 1 = 2 + (m + 1) by omega, pst_add, ← hs1, ← hs2, p3]
  refine ⟨?_, by rw [hpst], ?_, ?_, ?_⟩
  · rw [grw_split]
    refine Run.cat (n := 2 + m + 1) (m := 2) ?_ ?_
    · rw [show 2 + m + 1 = 2 + (m + 1) by omega]
      exact Run.cat r1 (by rw [← hs1]; exact r2)
    · rw [show 2 + m + 1 = 2 + (m + 1) by omega, pst_add, ← hs1, ← hs2]
      exact r3
  · rw [hpst]; exact (set_other s2.K neDJ (wseen V 0 (sealB (K + m) 0 0 0))).trans d2
  · rw [hpst]
    show Lgx (s2.K.set nmJ (wseen V 0 (sealB (K + m) 0 0 0)) nmJ) (K + m) N E P
    rw [set_same]
    refine ⟨.inr (HS.exact (take_wseen0 _ _ (sealB_length _ _ _ _))), ?_⟩
    rcases v2.len with e0 | h0
    · rw [e0]; exact ⟨fun k hk => by omega, .inl rfl⟩
    · refine v2.of (.inr (by rw [length_wseen, sealB_length]; omega)) (fun i h64 hi => ?_)
      unfold wseen
      rw [splice_get _ _ _ (by rw [length_grownTo, sealB_length]; omega), if_neg (by omega), if_neg (by rw [sealB_length]; omega), grown_get _ _ _ (by omega)]
  · rw [hpst]
    show (s2.K.set nmJ (wseen V 0 (sealB (K + m) 0 0 0)) nmJ).length ≤ _
    rw [set_same, length_wseen, sealB_length]
    omega
end Go.Proofs.YteocmhbllckpjaaGreat

namespace Go.Proofs.YteocmhbllckpjaaGreat
open Go.ChangeShapes Go.WideShapes Go.ChangeAt Go.RowKit
open Go.ChangeMaps (setBlock)
set_option linter.unusedVariables false

/-- What all steps make, if each has room. -/
theorem Far.all {r : Int} {f : Vw} {S : Nat → Stp} {n k : Nat} {e : Int} (h : Far r f S n k e) (hf : ∀ j, j < n → (S j).fits r (vw f S j)) : k = n ∧ e = 0 := by
  rcases h.2.2 with h | ⟨h1, h2, _⟩
  · exact h
  · exact absurd (hf k h1) h2

theorem vw_len {f : Vw} {S : Nat → Stp} {n : Nat} (hok : ∀ k, k < n → (S k).ok (vw f S k)) (hf : ∀ nm, (f nm).length ≤ 60000) : ∀ k, k ≤ n → ∀ nm, (vw f S k nm).length ≤ 60000
  | 0, _, nm => hf nm
  | k + 1, hk, nm => by
    have ih := vw_len hok hf k (by omega)
    have ho := hok k (by omega)
    show ((S k).on (vw f S k) nm).length ≤ 60000
    generalize S k = s at ho
    cases s with
    | put nm' a d =>
      by_cases e : nm = nm'
      · subst e
        show (Vw.set _ nm (wseen _ a d.data.toList) nm).length ≤ 60000
        have hl : d.data.toList.length = d.size := by rw [Array.length_toList]; rfl
        rw [set_same, length_wseen, hl]
        have := ih nm
        have := ho.2.2.2
        omega
      · rw [on_off (s := .put nm' a d) e]; exact ih nm
    | cut nm' m =>
      by_cases e : nm = nm'
      · subst e
        show (Vw.set _ nm (rsz _ m) nm).length ≤ 60000
        rw [set_same, length_rsz]
        exact ho.2.1
      · rw [on_off (s := .cut nm' m) e]; exact ih nm
    | sync nm' => exact ih nm
theorem fits_big {r : Int} (hr : 180000 ≤ r) {f : Vw} (hf : ∀ nm, (f nm).length ≤ 60000) {s : Stp} (ho : s.ok f) : s.fits r f := by
  cases s with
  | put nm a d =>
    refine .inr ?_
    have h1 := hf nmD
    have h2 := hf nmJ
    have h3 := ho.2.2.2
    unfold Vw.tot
    omega
  | cut nm m => trivial
  | sync nm => trivial
structure Dok (r : Int) (w : World) (D : DS) (base b : Nat) (w' : World) (S : Nat → Stp) (n i : Nat) (D' : DS) (who' : Nat → Nat) : Prop where
  rm : RM w D w' base b D' who'
  ji : JI r D' (i + n)
  seen : seenOf D' = vw (seenOf D) S n
  ps : psOf D' = pst (psOf D) S n
  fuse : D'.fuse = if D.fuse = 0 then 0 else D.fuse - n
structure Dcr (r : Int) (w : World) (D : DS) (base b : Nat) (w' : World) (Q : List UInt8 → List UInt8 → Prop) (i n : Nat) (D' : DS) (who' : Nat → Nat) : Prop where
  rm : RM w D w' base b D' who'
  jx : JX r D' (i + n)
  down : D'.down = true
  safe : Safe Q (psOf D')
theorem JX.later {r : Int} {D : DS} {i j : Nat} (h : JX r D i) (hij : i ≤ j) : JX r D j :=
  { h with few := by have := h.few; omega, steps := by have := h.steps; omega, starts := by have := h.starts; omega }
theorem do_ok (w : World) (base b : Nat) (D : DS) (who : Nat → Nat) (R : Rep w base b D who) {r : Int} {i : Nat} (h : JI r D i) (p : Option Addr) (n cap : Nat) (S : Nat → Stp) (hS : StA w b p n S) (hin : i + n ≤ 20000) (hfit : ∀ k, k < n → (S k).fits r (vw (seenOf D) S k)) (hok : ∀ k, k < n → (S k).ok (vw (seenOf D) S k)) (hf : D.fuse = 0 ∨ (n : Int) < D.fuse) :
    Calls Tryz.prog 48 #[.slice p n cap] w fun e w' => e = .returned (.int .i64 0) ∧ ∃ D' who', Dok r w D base b w' S n i D' who' := by
  refine (do_any w base b D who R h p n cap S hS hin (fun k hk _ => hok k hk)).mono ?_
  rintro e w' ⟨k, x, rfl, ⟨hF, _, D', who', h1, h2, h3, h4, h5⟩ | ⟨_, hk, h2, _⟩⟩
  · obtain ⟨rfl, rfl⟩ := hF.all (fun j hj => hfit j hj)
    exact ⟨rfl, D', who', h1, h2, h3, h4, h5⟩
  · exfalso; omega
theorem do_cr (w : World) (base b : Nat) (D : DS) (who : Nat → Nat) (R : Rep w base b D who) {r : Int} {i : Nat} (h : JI r D i) (p : Option Addr) (n cap : Nat) (S : Nat → Stp) (hS : StA w b p n S) (hin : i + n ≤ 20000) (hfit : ∀ k, k < n → (S k).fits r (vw (seenOf D) S k)) (hok : ∀ k, k < n → (S k).ok (vw (seenOf D) S k)) (hf : ¬ (D.fuse = 0 ∨ (n : Int) < D.fuse)) {Q : List UInt8 → List UInt8 → Prop} (hQ : Run Q (psOf D) S n) :
    Calls Tryz.prog 48 #[.slice p n cap] w fun e w' => e = .returned (.int .i64 7) ∧ ∃ D' who', Dcr r w D base b w' Q i n D' who' := by
  have h0 := h.fuse.1
  refine (do_any w base b D who R h p n cap S hS hin (fun k hk _ => hok k hk)).mono ?_
  rintro e w' ⟨k, x, rfl, ⟨hF, hk, _⟩ | ⟨rfl, hk, h2, D', who', h3, h4, h5, h6⟩⟩
  · exfalso
    obtain ⟨rfl, rfl⟩ := hF.all (fun j hj => hfit j hj)
    omega
  · exact ⟨rfl, D', who', h3, h4.later (by omega), h5, by rw [h6]; exact hQ k hk⟩
theorem ps_clean {r : Int} {D : DS} {i : Nat} (h : JX r D i) (hc : D.chs = []) (nm : ByteArray) : keptOf D nm = seenOf D nm := by
  have := h.full nm
  rw [hc] at this
  exact this
theorem ps_see {r : Int} {D : DS} {i : Nat} (h : JX r D i) (hc : (psOf D).cs = []) (nm : ByteArray) : (psOf D).K nm = seenOf D nm := ps_clean h hc nm

theorem fits_all {r : Int} (hr : 180000 ≤ r) {f : Vw} {S : Nat → Stp} {n : Nat} (hok : ∀ k, k < n → (S k).ok (vw f S k)) (hf : ∀ nm, (f nm).length ≤ 60000) (k : Nat) (hk : k < n) : (S k).fits r (vw f S k) := fits_big hr (vw_len hok hf k (by omega)) (hok k hk)
/-- One row of frames behind another. -/
def ext {α : Type} (K : Nat) (f g : Nat → α) : Nat → α := fun k => if k < K then f k else g (k - K)
theorem ext_lt {α : Type} {K k : Nat} {f g : Nat → α} (h : k < K) : ext K f g k = f k := if_pos h
theorem ext_ge {α : Type} {K : Nat} {f g : Nat → α} (j : Nat) : ext K f g (K + j) = g j := by
  unfold ext
  rw [if_neg (by omega), Nat.add_sub_cancel_left]
theorem fra_ext {K : Nat} {N E N2 E2 : Nat → Nat} {P P2 : Nat → List UInt8} (h : Fra N E P) (h2 : Fra N2 E2 P2) : Fra (ext K N N2) (ext K E E2) (ext K P P2) where
  num := fun k => by unfold ext; split; exact h.num k; exact h2.num _
  en := fun k => by unfold ext; split; exact h.en k; exact h2.en _
  ne := fun k => by
    unfold ext
    by_cases c : k < K
    · rw [if_pos c, if_pos c]; exact h.ne k
    · rw [if_neg c, if_neg c]; exact h2.ne _
  pg := fun k => by unfold ext; split; exact h.pg k; exact h2.pg _
/-- How many pages there are at the last mark. -/
def cntL (db : List UInt8) (K : Nat) (E : Nat → Nat) : Nat := if K = 0 then db.length / 256 else E (K - 1) - 1
theorem grw_ok {K m : Nat} {N E : Nat → Nat} {P : Nat → List UInt8} (hP : ∀ k, (P k).length = 256) (hm : K + m ≤ 180) (f : Vw) (k : Nat) (hk : k < 2 + m + 3) : (grwS K m N E P k).ok f := by
  unfold grwS catS
  split
  · split
    · match k with
      | 0 => refine ⟨.inr rfl, ?_, ?_, ?_⟩ <;> rw [bstr_size, sealB_length] <;> omega
      | _ + 1 => trivial
    · refine ⟨.inr rfl, ?_, ?_, ?_⟩ <;> rw [bstr_size, frB_length _ _ (hP _)] <;> omega
  · match k - (2 + m) with
    | 0 => trivial
    | 1 => refine ⟨.inr rfl, ?_, ?_, ?_⟩ <;> rw [bstr_size, sealB_length] <;> omega
    | _ + 2 => trivial
theorem grw_off {K m : Nat} {N E : Nat → Nat} {P : Nat → List UInt8} (f : Vw) (k : Nat) : vw f (grwS K m N E P) k nmD = f nmD := by
  refine vw_off (fun j _ => ?_)
  unfold grwS catS
  split
  · split
    · match j with
      | 0 => exact neDJ
      | _ + 1 => trivial
    · exact neDJ
  · match j - (2 + m) with
    | 0 => trivial
    | 1 => exact neDJ
    | _ + 2 => trivial
theorem grw_fits {K m : Nat} {N E : Nat → Nat} {P : Nat → List UInt8} (hP : ∀ k, (P k).length = 256) {r : Int} (f : Vw) (hr : (((f nmD).length + 64 + 320 * (K + m) : Nat) : Int) ≤ r) (k : Nat) (hk : k < 2 + m + 3) : (grwS K m N E P k).fits r (vw f (grwS K m N E P) k) := by
  have hD := grw_off (K := K) (m := m) (N := N) (E := E) (P := P) f k
  generalize vw f (grwS K m N E P) k = V at hD
  have key : ∀ a (d : ByteArray), a + d.size ≤ 64 + 320 * (K + m) → (Stp.put nmJ a d).fits r V := fun a d h => by
    refine .inr ?_
    show (Vw.tot V : Int) + _ ≤ r
    unfold Vw.tot
    rw [hD]
    omega
  unfold grwS catS
  split
  · split
    · match k with
      | 0 => exact key _ _ (by rw [bstr_size, sealB_length]; omega)
      | _ + 1 => trivial
    · exact key _ _ (by rw [bstr_size, frB_length _ _ (hP _)]; omega)
  · match k - (2 + m) with
    | 0 => trivial
    | 1 => exact key _ _ (by rw [bstr_size, sealB_length]; omega)
    | _ + 2 => trivial
end Go.Proofs.YteocmhbllckpjaaGreat
