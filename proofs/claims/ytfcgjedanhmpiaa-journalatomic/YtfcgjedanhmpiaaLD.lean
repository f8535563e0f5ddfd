/- What may be left of a file behind a crash. Plain. -/
/- Heads, records and pages that a crash leaves. Plain. -/
/- Commits and recoveries, wherever they crash. Plain. -/
/- Changes of the database and recoveries, wherever they crash. Plain. -/
import Derived.Test.YtfcgjedanhmpiaaAKB
import Derived.Test.YtfcgjedanhmpiaaW4
namespace Go.Proofs.Ytfcgjedanhmpiaa
open Go.ChangeShapes Go.WideShapes Go.ChangeAt Go.RowKit
set_option linter.unusedVariables false

/-- What may be left of a file, whatever becomes of its changes. -/
def Surv (nm : ByteArray) : List UInt8 → List Ch → List UInt8 → Prop
  | l, [], X => X = l
  | l, c :: r, X => ∃ k : Int, Surv nm (if isN nm c then takeL l c k else l) r X
theorem Surv.inv {nm : ByteArray} {P : List UInt8 → Prop} : ∀ {cs : List Ch} {l X : List UInt8}, (∀ c ∈ cs, isN nm c = true → ∀ l k, P l → P (takeL l c k)) → P l → Surv nm l cs X → P X
  | [], l, X, _, hl, h => by rw [show X = l from h]; exact hl
  | c :: r, l, X, hc, hl, h => by
    obtain ⟨k, h⟩ := h
    refine Surv.inv (fun d hd => hc d (by simp [hd])) ?_ h
    cases hb : isN nm c with
    | false => simpa using hl
    | true => simpa using hc c (by simp) hb l k hl
theorem Surv.other {nm : ByteArray} {cs : List Ch} {l X : List UInt8} (hc : ∀ c ∈ cs, isN nm c = false) (h : Surv nm l cs X) : X = l :=
  Surv.inv (P := fun Y => Y = l) (fun c hm hb => by rw [hc c hm] at hb; cases hb) rfl h
theorem surv_kept {nm : ByteArray} {chs : List Ch} {ch : Nat → Int} {l : List UInt8} : ∀ (n j : Nat), j + n = chs.length → Surv nm (keptJ chs ch nm l j) (chs.drop j) (keptJ chs ch nm l chs.length)
  | 0, j, h => by
    rw [List.drop_of_length_le (by omega)]
    show keptJ chs ch nm l chs.length = keptJ chs ch nm l j
    rw [← h]; rfl
  | n + 1, j, h => by
    have hj : j < chs.length := by omega
    rw [List.drop_eq_getElem_cons hj]
    refine ⟨ch j, ?_⟩
    have := surv_kept (nm := nm) (chs := chs) (ch := ch) (l := l) n (j + 1) (by omega)
    rw [keptJ_succ (List.getElem?_eq_getElem hj)] at this
    exact this
theorem keepF_surv {nm : ByteArray} : ∀ (cs : List Ch) (l : List UInt8), Surv nm l cs (keepF nm l cs)
  | [], l => rfl
  | c :: r, l => ⟨1, keepF_surv r _⟩
/-- Whatever a crash leaves has that property. -/
def Safe (Q : List UInt8 → List UInt8 → Prop) (s : PS) : Prop := ∀ XD XJ, Surv nmD (s.K nmD) s.cs XD → Surv nmJ (s.K nmJ) s.cs XJ → Q XD XJ
theorem pst_le {s : PS} {S S' : Nat → Stp} {n : Nat} : ∀ {k : Nat}, k ≤ n → pst s (catS S n S') k = pst s S k
  | 0, _ => rfl
  | k + 1, h => by
    show (catS S n S' k).dn (pst s (catS S n S') k) = (S k).dn (pst s S k)
    rw [catS_lt (by omega), pst_le (by omega)]
theorem pst_add {s : PS} {S S' : Nat → Stp} {n : Nat} : ∀ (k : Nat), pst s (catS S n S') (n + k) = pst (pst s S n) S' k
  | 0 => pst_le (Nat.le_refl _)
  | k + 1 => by
    show (catS S n S' (n + k)).dn (pst s (catS S n S') (n + k)) = (S' k).dn (pst (pst s S n) S' k)
    rw [catS_ge, pst_add k]
/-- No crash at any of the steps leaves anything else. -/
def Run (Q : List UInt8 → List UInt8 → Prop) (s : PS) (S : Nat → Stp) (n : Nat) : Prop := ∀ k, k < n → Safe Q ((S k).cr (pst s S k))
theorem Run.cat {Q : List UInt8 → List UInt8 → Prop} {s : PS} {S S' : Nat → Stp} {n m : Nat} (h : Run Q s S n) (h' : Run Q (pst s S n) S' m) : Run Q s (catS S n S') (n + m) := fun k hk => by
  by_cases c : k < n
  · rw [catS_lt c, pst_le (Nat.le_of_lt c)]; exact h k c
  · obtain ⟨j, rfl⟩ : ∃ j, k = n + j := ⟨k - n, by omega⟩
    rw [catS_ge, pst_add]; exact h' j (by omega)
/-- A property of a file that all its changes keep. -/
structure Pend (nm : ByteArray) (P : List UInt8 → Prop) (s : PS) : Prop where
  here : P (s.K nm)
  keep : ∀ c ∈ s.cs, isN nm c = true → ∀ l k, P l → P (takeL l c k)
theorem Pend.surv {nm : ByteArray} {P : List UInt8 → Prop} {s : PS} (h : Pend nm P s) {X : List UInt8} (hX : Surv nm (s.K nm) s.cs X) : P X := Surv.inv h.keep h.here hX
theorem Pend.see {nm : ByteArray} {P : List UInt8 → Prop} {s : PS} (h : Pend nm P s) : P (s.see nm) := h.surv (keepF_surv _ _)
theorem wchs_name {nm : ByteArray} {l d : List UInt8} {a : Nat} {c : Ch} (h : c ∈ wchs nm l a d) : c.name = nm := by
  unfold wchs at h
  rcases List.mem_append.1 h with h | h
  · unfold wsize at h
    split at h
    · rw [List.mem_singleton.1 h]
    · cases h
  · unfold secs at h
    obtain ⟨k, _, rfl⟩ := List.mem_map.1 h
    rfl
theorem isN_no {nm nm' : ByteArray} {c : Ch} (h : c.name = nm') (hne : nm ≠ nm') : isN nm c = false := by
  cases hb : isN nm c with
  | false => rfl
  | true => exact absurd ((isN_eq hb).symm.trans h) hne
theorem mem_others {nm : ByteArray} {c : Ch} {cs : List Ch} (h : c ∈ others nm cs) : c ∈ cs ∧ isN nm c = false := by
  have := List.mem_filter.1 h
  exact ⟨this.1, by simpa using this.2⟩
/-- A step keeps a property, if its own changes do. -/
theorem Pend.dn {nm : ByteArray} {P : List UInt8 → Prop} {s : PS} (h : Pend nm P s) (st : Stp)
    (hp : ∀ a d, st = .put nm a d → ∀ c ∈ wchs nm (s.see nm) a d.data.toList, ∀ l k, P l → P (takeL l c k)) (hc : ∀ n, st = .cut nm n → ∀ l k, P l → P (takeL l (cutC nm n) k)) : Pend nm P (st.dn s) := by
  cases st with
  | put nm' a d =>
    refine ⟨h.here, fun c hm hb => ?_⟩
    rcases List.mem_append.1 hm with hm | hm
    · exact h.keep c hm hb
    · by_cases e : nm' = nm
      · subst e; exact hp a d rfl c hm
      · rw [isN_no (wchs_name hm) (Ne.symm e)] at hb; cases hb
  | cut nm' n =>
    refine ⟨h.here, fun c hm hb => ?_⟩
    rcases List.mem_append.1 hm with hm | hm
    · exact h.keep c hm hb
    · have hm2 : c ∈ (if n = (s.see nm').length then [] else [cutC nm' n]) := hm
      split at hm2
      · cases hm2
      · by_cases e : nm' = nm
        · subst e; rw [List.mem_singleton.1 hm2]; exact hc n rfl
        · rw [List.mem_singleton.1 hm2] at hb
          rw [isN_no (nm' := nm') rfl (Ne.symm e)] at hb; cases hb
  | sync nm' =>
    by_cases e : nm' = nm
    · subst e
      refine ⟨?_, fun c hm hb => ?_⟩
      · show P (s.K.set nm' (s.see nm') nm')
        rw [set_same]; exact h.see
      · rw [(mem_others hm).2] at hb; cases hb
    · refine ⟨?_, fun c hm hb => h.keep c (mem_others hm).1 hb⟩
      show P (s.K.set nm' (s.see nm') nm)
      rw [set_other _ (Ne.symm e)]; exact h.here
theorem Pend.cr {nm : ByteArray} {P : List UInt8 → Prop} {s : PS} (h : Pend nm P s) (st : Stp)
    (hp : ∀ a d, st = .put nm a d → ∀ c ∈ wchs nm (s.see nm) a d.data.toList, ∀ l k, P l → P (takeL l c k)) (hc : ∀ n, st = .cut nm n → ∀ l k, P l → P (takeL l (cutC nm n) k)) : Pend nm P (st.cr s) := by
  cases st with
  | put nm' a d => exact h.dn _ hp hc
  | cut nm' n => exact h.dn _ hp hc
  | sync nm' => exact h
theorem Pend.safe {P P' : List UInt8 → Prop} {s : PS} {Q : List UInt8 → List UInt8 → Prop} (h : Pend nmD P s) (h' : Pend nmJ P' s) (hq : ∀ x y, P x → P' y → Q x y) : Safe Q s := fun XD XJ hD hJ => hq _ _ (h.surv hD) (h'.surv hJ)
/-- What is seen behind a step. -/
theorem keepF_none {nm : ByteArray} {l : List UInt8} {cs : List Ch} (h : ∀ c ∈ cs, isN nm c = false) : keepF nm l cs = l := Surv.other h (keepF_surv cs l)
theorem keepF_oth {nm nm' : ByteArray} (hne : nm ≠ nm') : ∀ (cs : List Ch) (l : List UInt8), keepF nm l (others nm' cs) = keepF nm l cs
  | [], _ => rfl
  | c :: r, l => by
    unfold others
    rw [List.filter_cons]
    cases hb : isN nm' c with
    | true =>
      have hb' : isN nm c = false := isN_no (isN_eq hb) hne
      show keepF nm l (others nm' r) = keepF nm (if isN nm c then takeL l c 1 else l) r
      rw [hb', keepF_oth hne r l]
      rfl
    | false =>
      show keepF nm (if isN nm c then takeL l c 1 else l) (others nm' r) = keepF nm (if isN nm c then takeL l c 1 else l) r
      exact keepF_oth hne r _
theorem see_dn (s : PS) (st : Stp) (hok : ∀ nm a d, st = .put nm a d → 0 < d.size) : (st.dn s).see = st.on s.see := by
  funext nm
  cases st with
  | put nm' a d =>
    show keepF nm (s.K nm) (s.cs ++ wchs nm' (s.see nm') a d.data.toList) = Vw.set s.see nm' (wseen (s.see nm') a d.data.toList) nm
    rw [keepF_append]
    by_cases e : nm = nm'
    · subst e
      rw [set_same]
      have hl : d.data.toList.length = d.size := by rw [Array.length_toList]; rfl
      exact keep_wchs nm (s.see nm) d.data.toList a (by have := hok nm a d rfl; omega)
    · rw [set_other _ e]
      exact keepF_none (fun c hc => isN_no (wchs_name hc) e)
  | cut nm' n =>
    show keepF nm (s.K nm) (s.cs ++ if n = (s.see nm').length then [] else [cutC nm' n]) = Vw.set s.see nm' (rsz (s.see nm') n) nm
    by_cases e : nm = nm'
    · subst e
      rw [set_same]
      by_cases c : n = (s.see nm).length
      · rw [if_pos c, List.append_nil, c, rsz_self]
        rfl
      · rw [if_neg c]
        rw [keepF_append]
        show (if isN nm (cutC nm n) then takeL (s.see nm) (cutC nm n) 1 else s.see nm) = _
        rw [show isN nm (cutC nm n) = true from isN_self _ _ _ _, if_pos rfl]
        unfold takeL
        rw [if_neg (by decide), if_pos (show (cutC nm n).sector = -1 from rfl)]
        show rsz (s.see nm) (n : Int).toNat = _
        rw [Int.toNat_natCast]
    · rw [set_other _ e]
      split
      · rw [List.append_nil]; rfl
      · rw [keepF_append]
        exact keepF_none (fun c hc => by rw [List.mem_singleton.1 hc]; exact isN_no (nm' := nm') rfl e)
  | sync nm' =>
    show keepF nm (s.K.set nm' (s.see nm') nm) (others nm' s.cs) = s.see nm
    by_cases e : nm = nm'
    · subst e
      rw [set_same]
      exact keepF_none (fun c hc => (mem_others hc).2)
    · rw [set_other _ e, keepF_oth e]
      rfl
def PutsOk (S : Nat → Stp) (n : Nat) : Prop := ∀ k, k < n → ∀ nm a d, S k = .put nm a d → 0 < d.size
theorem see_pst (s : PS) (S : Nat → Stp) (n : Nat) (hok : PutsOk S n) : ∀ k, k ≤ n → (pst s S k).see = vw s.see S k
  | 0, _ => rfl
  | k + 1, h => by
    show ((S k).dn (pst s S k)).see = (S k).on (vw s.see S k)
    rw [see_dn _ _ (hok k (by omega)), see_pst s S n hok k (by omega)]
end Go.Proofs.Ytfcgjedanhmpiaa

namespace Go.Proofs.Ytfcgjedanhmpiaa
open Go.ChangeShapes Go.WideShapes Go.ChangeAt Go.RowKit
set_option linter.unusedVariables false

theorem saysF_congr {f g C : Nat → Nat} (h : ∀ i, i < 48 → f i = g i) (hs : saysF f C) : saysF g C := by
  have hsame : sameF g → sameF f := fun hg i hi => by rw [h i (by omega), h (16 + i) (by omega)]; exact hg i hi
  have hsame2 : sameF f → sameF g := fun hg i hi => by rw [← h i (by omega), ← h (16 + i) (by omega)]; exact hg i hi
  exact ⟨fun hg i hi => by rw [← h i (by omega)]; exact hs.1 (hsame hg) i hi, fun hg i hi => by rw [← h (32 + i) (by omega)]; exact hs.2 (fun x => hg (hsame2 x)) i hi⟩
/-- A file whose head says that, however often it is written anew. -/
structure HS (X : List UInt8) (a b c d : Nat) : Prop where
  long : 64 ≤ X.length
  st : ∀ k, saysF (mixF (byteAt (sealB a b c d)) (byteAt X) k) (gbF a b c d)
theorem HS.congr {X Y : List UInt8} {a b c d : Nat} (h : HS X a b c d) (hl : 64 ≤ Y.length) (he : ∀ i, i < 64 → byteAt Y i = byteAt X i) : HS Y a b c d :=
  ⟨hl, fun k => saysF_congr (fun i hi => by unfold mixF; rw [he i (by omega)]) (h.st k)⟩
theorem HS.hd {X : List UInt8} {a b c d : Nat} (h : HS X a b c d) (ha : a < 4294967296) (hb : b < 4294967296) (hc : c < 4294967296) (hd' : d < 4294967296) : hdw X 0 = a ∧ hdw X 1 = b ∧ hdw X 2 = c ∧ hdw X 3 = d := by
  have e := hd_eq X
  unfold Go.Proofs.Ytfcgjedanhmpiaa.hd at e
  have hs : saysF (byteAt (X.take 64)) (gbF a b c d) := saysF_congr (fun i hi => by
    show mixF (byteAt (sealB a b c d)) (byteAt X) 0 i = _
    unfold mixF byteAt
    rw [if_neg (by omega)]
    simp [List.getD, show i < 64 by omega]) (h.st 0)
  rw [if_neg (by have := h.long; omega), say_of _ a b c d ha hb hc hd' hs] at e
  simp only [Array.mk.injEq, List.cons.injEq, Value.int.injEq, true_and, and_true] at e
  omega
theorem byteAt_take {X Y : List UInt8} (h : X.take 64 = Y) (i : Nat) (hi : i < 64) : byteAt X i = byteAt Y i := by
  unfold byteAt
  rw [← h]
  simp [List.getD, hi]
theorem HS.exact {X : List UInt8} {a b c d : Nat} (h : X.take 64 = sealB a b c d) : HS X a b c d := by
  have hl : 64 ≤ X.length := by
    have := congrArg List.length h
    rw [List.length_take, sealB_length] at this
    omega
  refine ⟨hl, fun k => saysF_congr (fun i hi => ?_) (seal_says a b c d)⟩
  unfold mixF
  rw [byteAt_take h i (by omega)]
  split <;> rfl
theorem putL_get (l : List UInt8) (a : Nat) (d : List UInt8) (i : Nat) : (putL l a d)[i]? = if a ≤ i ∧ i < a + d.length ∧ i < l.length then d[i - a]? else l[i]? := by
  unfold putL
  by_cases c : a < l.length
  · rw [if_pos c, splice_get _ _ _ (by rw [List.length_take]; omega)]
    by_cases c1 : i < a
    · rw [if_pos c1, if_neg (by omega)]
    · rw [if_neg c1]
      by_cases c2 : i < a + (d.take (l.length - a)).length
      · rw [if_pos c2]
        rw [List.length_take] at c2
        rw [if_pos (by omega), List.getElem?_take, if_pos (by omega)]
      · rw [if_neg c2]
        rw [List.length_take] at c2
        by_cases c3 : i < l.length
        · rw [if_neg (by omega)]
        · rw [if_neg (by omega)]
  · rw [if_neg c, if_neg (by omega)]
theorem rsz_get (l : List UInt8) (n i : Nat) (h1 : i < n) (h2 : i < l.length) : (rsz l n)[i]? = l[i]? := by
  unfold rsz
  split
  · rw [List.getElem?_take, if_pos h1]
  · rw [List.getElem?_append_left h2]
theorem byteAt_get {X Y : List UInt8} {i : Nat} (h : X[i]? = Y[i]?) : byteAt X i = byteAt Y i := by unfold byteAt List.getD; rw [h]
/-- A change that leaves the head alone. -/
def Past (c : Ch) : Prop := (c.sector = -1 ∧ 64 ≤ c.size) ∨ 1 ≤ c.sector
theorem take_past {X : List UInt8} {c : Ch} (hc : Past c) (hl : 64 ≤ X.length) (k : Int) : 64 ≤ (takeL X c k).length ∧ ∀ i, i < 64 → (takeL X c k)[i]? = X[i]? := by
  unfold takeL
  by_cases c0 : k ≤ 0
  · rw [if_pos c0]; exact ⟨hl, fun _ _ => rfl⟩
  · rw [if_neg c0]
    rcases hc with ⟨h1, h2⟩ | h1
    · rw [if_pos h1, length_rsz]
      exact ⟨by omega, fun i hi => rsz_get _ _ _ (by omega) (by omega)⟩
    · rw [if_neg (by omega), length_putL]
      exact ⟨hl, fun i hi => by rw [putL_get, if_neg (by omega)]⟩
theorem HS.past {X : List UInt8} {a b c d : Nat} (h : HS X a b c d) {ch : Ch} (hc : Past ch) (k : Int) : HS (takeL X ch k) a b c d :=
  h.congr (take_past hc h.long k).1 (fun i hi => byteAt_get ((take_past hc h.long k).2 i hi))
/-- The head's sector is written over. -/
def hdC (q : List UInt8) : Ch := ⟨nmJ, ((0 : Nat) : Int), 0, q⟩
theorem take_hd {X q : List UInt8} (hq : q.length = 64) (hl : 64 ≤ X.length) (k : Int) : (takeL X (hdC q) k).length = X.length ∧ (∀ i, 64 ≤ i → (takeL X (hdC q) k)[i]? = X[i]?) ∧ (takeL X (hdC q) k = X ∨ ∃ t, t ≤ 64 ∧ ∀ i, i < 64 → byteAt (takeL X (hdC q) k) i = mixF (byteAt q) (byteAt X) t i) := by
  unfold takeL
  by_cases c0 : k ≤ 0
  · rw [if_pos c0]; exact ⟨rfl, fun _ _ => rfl, .inl rfl⟩
  · rw [if_neg c0, if_neg (by show ¬ ((0 : Nat) : Int) = -1; omega), length_putL]
    have hk := arrN_le (k := k) (by omega)
    have hg : ∀ i, (putL X (((0 : Nat) : Int).toNat * 64) (q.take (arrN k)))[i]? = if i < arrN k then q[i]? else X[i]? := fun i => by
      rw [putL_get]
      simp only [Int.toNat_natCast, Nat.zero_mul, Nat.zero_le, true_and, Nat.zero_add, List.length_take, Nat.sub_zero]
      by_cases c1 : i < arrN k
      · rw [if_pos (by omega), if_pos c1, List.getElem?_take, if_pos c1]
      · rw [if_neg (by omega), if_neg c1]
    refine ⟨rfl, fun i hi => ?_, .inr ⟨arrN k, hk.2, fun i hi => ?_⟩⟩
    · show (putL X (((0 : Nat) : Int).toNat * 64) (q.take (arrN k)))[i]? = _
      rw [hg, if_neg (by omega)]
    · show byteAt (putL X (((0 : Nat) : Int).toNat * 64) (q.take (arrN k))) i = _
      unfold mixF
      by_cases c1 : i < arrN k
      · rw [if_pos c1]; exact byteAt_get (by rw [hg, if_pos c1])
      · rw [if_neg c1]; exact byteAt_get (by rw [hg, if_neg c1])
theorem HS.same {X : List UInt8} {a b c d : Nat} (h : HS X a b c d) (k : Int) : HS (takeL X (hdC (sealB a b c d)) k) a b c d := by
  obtain ⟨h1, h2, h3⟩ := take_hd (sealB_length a b c d) h.long k
  rcases h3 with h3 | ⟨t, ht, h3⟩
  · rw [h3]; exact h
  · refine ⟨by rw [h1]; exact h.long, fun j => saysF_congr (fun i hi => ?_) (h.st (max t j))⟩
    unfold mixF
    rw [h3 i (by omega)]
    unfold mixF
    by_cases c1 : i < j
    · rw [if_pos c1, if_pos (by omega)]
    · rw [if_neg c1]
      by_cases c2 : i < t
      · rw [if_pos c2, if_pos (by omega)]
      · rw [if_neg c2, if_neg (by omega)]
theorem HS.new {X : List UInt8} {a b c d a' b' c' d' : Nat} (h : X.take 64 = sealB a b c d) (k : Int) : HS (takeL X (hdC (sealB a' b' c' d')) k) a b c d ∨ HS (takeL X (hdC (sealB a' b' c' d')) k) a' b' c' d' := by
  have hx := HS.exact h
  obtain ⟨h1, h2, h3⟩ := take_hd (sealB_length a' b' c' d') hx.long k
  rcases h3 with h3 | ⟨t, ht, h3⟩
  · rw [h3]; exact .inl hx
  · have e : ∀ i, i < 48 → mixF (byteAt (sealB a' b' c' d')) (byteAt (sealB a b c d)) t i = byteAt (takeL X (hdC (sealB a' b' c' d')) k) i := fun i hi => by
      rw [h3 i (by omega)]
      unfold mixF
      rw [byteAt_take h i (by omega)]
    have fin : ∀ A B C E, saysF (mixF (byteAt (sealB a' b' c' d')) (byteAt (sealB a b c d)) t) (gbF A B C E) → HS (takeL X (hdC (sealB a' b' c' d')) k) A B C E := fun A B C E hs => by
      refine ⟨by rw [h1]; exact hx.long, fun j => saysF_congr (fun i hi => ?_) (mix_again (seal_bytes a' b' c' d') (seal_bytes a b c d) (seal_bytes A B C E) t hs j)⟩
      show mixF (byteAt (sealB A B C E)) (mixF (byteAt (sealB a' b' c' d')) (byteAt (sealB a b c d)) t) j i = mixF (byteAt (sealB A B C E)) (byteAt (takeL X (hdC (sealB a' b' c' d')) k)) j i
      unfold mixF
      split
      · rfl
      · exact e i hi
    rcases mix_says (seal_bytes a' b' c' d') (seal_bytes a b c d) t with hs | hs
    · exact .inr (fin _ _ _ _ hs)
    · exact .inl (fin _ _ _ _ hs)
/-- A journal that is cold. -/
def Cd (X : List UInt8) : Prop := X = [] ∨ HS X 0 0 0 0
theorem Cd.hd {X : List UInt8} (h : Cd X) : hdw X 0 = 0 ∧ hdw X 1 = 0 ∧ hdw X 2 = 0 ∧ hdw X 3 = 0 := by
  rcases h with rfl | h
  · exact ⟨rfl, rfl, rfl, rfl⟩
  · exact h.hd (by omega) (by omega) (by omega) (by omega)
theorem seal0 : sealB 0 0 0 0 = List.replicate 64 0 := by decide +kernel
theorem Cd.past {X : List UInt8} (h : Cd X) {c : Ch} (hc : Past c) (k : Int) : Cd (takeL X c k) := by
  rcases h with rfl | h
  · unfold takeL
    by_cases c0 : k ≤ 0
    · rw [if_pos c0]; exact .inl rfl
    · rw [if_neg c0]
      rcases hc with ⟨h1, h2⟩ | h1
      · rw [if_pos h1]
        refine .inr (HS.exact ?_)
        unfold rsz
        rw [if_neg (by simp; omega), seal0, List.nil_append, List.take_replicate]
        congr 1
        simp
        omega
      · rw [if_neg (by omega)]
        unfold putL
        rw [if_neg (by simp)]
        exact .inl rfl
  · exact .inr (h.past hc k)
theorem Cd.same {X : List UInt8} (h : Cd X) (k : Int) : Cd (takeL X (hdC (sealB 0 0 0 0)) k) := by
  rcases h with rfl | h
  · unfold takeL
    by_cases c0 : k ≤ 0
    · rw [if_pos c0]; exact .inl rfl
    · rw [if_neg c0, if_neg (by show ¬ ((0 : Nat) : Int) = -1; omega)]
      unfold putL
      rw [if_neg (by simp)]
      exact .inl rfl
  · exact .inr (h.same k)
/-- The records of a journal. -/
structure Recs (X : List UInt8) (m : Nat) (T : Nat → Nat) (P : Nat → List UInt8) : Prop where
  recs : ∀ j, j < m → subL X (64 + 320 * j) 320 = recB (T j) (P j)
  len : 64 + 320 * m ≤ X.length
theorem Recs.hd {X q : List UInt8} {m : Nat} {T : Nat → Nat} {P : Nat → List UInt8} (h : Recs X m T P) (hq : q.length = 64) (k : Int) : Recs (takeL X (hdC q) k) m T P := by
  obtain ⟨h1, h2, h3⟩ := take_hd (X := X) hq (by have := h.len; omega) k
  refine ⟨fun j hj => ?_, by rw [h1]; exact h.len⟩
  rw [← h.recs j hj]
  apply List.ext_getElem?
  intro i
  rw [subL_get, subL_get]
  split
  · exact h2 _ (by omega)
  · rfl
/-- A database of which only pages that are kept aside were touched. -/
def Intact (db : List UInt8) (old : Nat) (tl : List Nat) (X : List UInt8) : Prop := ∀ p, 1 ≤ p → p ≤ old → p ∉ tl → 256 * p ≤ X.length ∧ pgL X p = pgL db p
theorem pg_rsz {X : List UInt8} {n p : Nat} (h1 : 256 * p ≤ X.length) (h2 : 256 * p ≤ n) (hp : 1 ≤ p) : 256 * p ≤ (rsz X n).length ∧ pgL (rsz X n) p = pgL X p := by
  rw [length_rsz]
  refine ⟨h2, ?_⟩
  show subL _ _ _ = subL _ _ _
  apply List.ext_getElem?
  intro i
  rw [subL_get, subL_get]
  split
  · exact rsz_get _ _ _ (by omega) (by omega)
  · rfl
theorem pg_put {X d : List UInt8} {N k p : Nat} (hN : 1 ≤ N) (hp : 1 ≤ p) (hne : p ≠ N) (h1 : 4 * (N - 1) ≤ k) (h2 : k < 4 * N) (hd : d.length ≤ 64) : pgL (putL X (k * 64) d) p = pgL X p := by
  show subL _ _ _ = subL _ _ _
  apply List.ext_getElem?
  intro i
  rw [subL_get, subL_get]
  split
  · rw [putL_get, if_neg (by omega)]
  · rfl
theorem Intact.put {db X see d : List UInt8} {old N : Nat} {tl : List Nat} (h : Intact db old tl X) (hs : Intact db old tl see) (hN : 1 ≤ N) (ht : N ∈ tl ∨ old < N) (hd : d.length = 256) {c : Ch} (hc : c ∈ wchs nmD see (256 * (N - 1)) d) (k : Int) : Intact db old tl (takeL X c k) := fun p p1 p2 p3 => by
  obtain ⟨q1, q2⟩ := h p p1 p2 p3
  have hne : p ≠ N := fun e => by
    rcases ht with ht | ht
    · exact p3 (e ▸ ht)
    · omega
  unfold takeL
  by_cases c0 : k ≤ 0
  · rw [if_pos c0]; exact ⟨q1, q2⟩
  rw [if_neg c0]
  unfold wchs at hc
  rcases List.mem_append.1 hc with hc | hc
  · unfold wsize at hc
    split at hc
    · rename_i hlt
      have e := List.mem_singleton.1 hc
      have hsz : c.size = ((256 * (N - 1) + d.length : Nat) : Int) := by rw [e]
      have hse : c.sector = -1 := by rw [e]
      rw [if_pos hse]
      have hp4 := (hs p p1 p2 p3).1
      have := pg_rsz (n := c.size.toNat) q1 (by rw [hsz]; omega) p1
      exact ⟨this.1, by rw [this.2]; exact q2⟩
    · cases hc
  · unfold secs at hc
    obtain ⟨j, hj, rfl⟩ := List.mem_map.1 hc
    rw [List.mem_range'_1] at hj
    rw [if_neg (by show ¬ (j : Int) = -1; omega), length_putL]
    refine ⟨q1, ?_⟩
    have hk := arrN_le (k := k) (by omega)
    have := pg_put (X := X) (d := List.take (arrN k) (secOf (wseen see (256 * (N - 1)) d) j)) hN p1 hne (k := j) (by omega) (by omega) (by rw [List.length_take]; omega)
    show pgL (putL X ((j : Int).toNat * 64) (List.take (arrN k) (secOf (wseen see (256 * (N - 1)) d) j))) p = _
    rw [Int.toNat_natCast, this]; exact q2
theorem Intact.cut {db X : List UInt8} {old n : Nat} {tl : List Nat} (h : Intact db old tl X) (hn : ∀ p, 1 ≤ p → p ≤ old → p ∉ tl → p ≤ n) (k : Int) : Intact db old tl (takeL X (cutC nmD (256 * n)) k) := fun p p1 p2 p3 => by
  obtain ⟨q1, q2⟩ := h p p1 p2 p3
  unfold takeL
  by_cases c0 : k ≤ 0
  · rw [if_pos c0]; exact ⟨q1, q2⟩
  rw [if_neg c0, if_pos (show (cutC nmD (256 * n)).sector = -1 from rfl)]
  have := hn p p1 p2 p3
  have := pg_rsz (X := X) (n := (cutC nmD (256 * n)).size.toNat) q1 (by show _ ≤ ((256 * n : Nat) : Int).toNat; omega) p1
  exact ⟨this.1, by rw [this.2]; exact q2⟩
end Go.Proofs.Ytfcgjedanhmpiaa

namespace Go.Proofs.Ytfcgjedanhmpiaa
open Go.ChangeShapes Go.WideShapes Go.ChangeAt Go.RowKit
set_option linter.unusedVariables false

theorem Pend.run {nm : ByteArray} {P : List UInt8 → Prop} {s : PS} {S : Nat → Stp} {n : Nat} (h : Pend nm P s)
    (hst : ∀ k, k < n → Pend nm P (pst s S k) → (∀ a d, S k = .put nm a d → ∀ c ∈ wchs nm ((pst s S k).see nm) a d.data.toList, ∀ l j, P l → P (takeL l c j)) ∧ (∀ m, S k = .cut nm m → ∀ l j, P l → P (takeL l (cutC nm m) j))) :
    ∀ k, k ≤ n → Pend nm P (pst s S k)
  | 0, _ => h
  | k + 1, hk => by
    have ih := Pend.run h hst k (by omega)
    exact ih.dn (S k) (hst k (by omega) ih).1 (hst k (by omega) ih).2
theorem Pend.runC {nm : ByteArray} {P : List UInt8 → Prop} {s : PS} {S : Nat → Stp} {n : Nat} (h : Pend nm P s)
    (hst : ∀ k, k < n → Pend nm P (pst s S k) → (∀ a d, S k = .put nm a d → ∀ c ∈ wchs nm ((pst s S k).see nm) a d.data.toList, ∀ l j, P l → P (takeL l c j)) ∧ (∀ m, S k = .cut nm m → ∀ l j, P l → P (takeL l (cutC nm m) j))) (k : Nat) (hk : k < n) : Pend nm P ((S k).cr (pst s S k)) := by
  have ih := Pend.run h hst k (by omega)
  exact ih.cr (S k) (hst k hk ih).1 (hst k hk ih).2
theorem Pend.two {P P' : List UInt8 → Prop} {s : PS} {S : Nat → Stp} {n : Nat} {Q : List UInt8 → List UInt8 → Prop} (hD : ∀ k, k < n → Pend nmD P ((S k).cr (pst s S k))) (hJ : ∀ k, k < n → Pend nmJ P' ((S k).cr (pst s S k))) (hq : ∀ x y, P x → P' y → Q x y) : Run Q s S n := fun k hk => (hD k hk).safe (hJ k hk) hq
theorem pend_free {nm : ByteArray} {P : List UInt8 → Prop} {s : PS} (hcs : s.cs = []) (h : P (s.K nm)) : Pend nm P s := ⟨h, fun c hc => by rw [hcs] at hc; cases hc⟩
theorem sec_head {l q : List UInt8} (hq : q.length = 64) : secOf (wseen l 0 q) 0 = q := by
  unfold secOf
  rw [Nat.zero_mul, List.drop_zero, take_wseen0 l q hq]
  unfold splice
  rw [List.take_zero, List.nil_append, Nat.zero_add, hq, List.drop_of_length_le (by simp), List.append_nil]
theorem wchs_head {l q : List UInt8} (hq : q.length = 64) : wchs nmJ l 0 q = wsize nmJ l 64 ++ [hdC q] := by
  unfold wchs
  rw [hq]
  congr 1
  show (List.range' 0 1).map _ = _
  simp only [List.range'_one, List.map_cons, List.map_nil, sec_head hq]
  rfl
theorem wsize_none {nm : ByteArray} {l : List UInt8} {n : Nat} (h : n ≤ l.length) : wsize nm l n = [] := if_neg (by omega)
theorem mem_wsize {nm : ByteArray} {l : List UInt8} {n : Nat} {c : Ch} (h : c ∈ wsize nm l n) : c.sector = -1 ∧ c.size = (n : Int) := by
  unfold wsize at h
  split at h
  · rw [List.mem_singleton.1 h]; exact ⟨rfl, rfl⟩
  · cases h
theorem others_all {nm : ByteArray} {cs : List Ch} (h : ∀ c ∈ cs, isN nm c = true) : others nm cs = [] := by
  unfold others
  rw [List.filter_eq_nil_iff]
  intro c hc
  rw [h c hc]
  decide
/-- A head, and its sync. -/
def hdSt (q : List UInt8) : Nat → Stp
  | 0 => .put nmJ 0 (bstr q)
  | _ => .sync nmJ
theorem head_run {Q : List UInt8 → List UInt8 → Prop} {s : PS} {J q : List UInt8} (hcs : s.cs = []) (hJ : s.K nmJ = J) (hl : 64 ≤ J.length) (hq : q.length = 64) (hQ : ∀ k, Q (s.K nmD) (takeL J (hdC q) k)) : Run Q s (hdSt q) 2 ∧ pst s (hdSt q) 2 = ⟨s.K.set nmJ (wseen J 0 q), []⟩ := by
  have hsee : s.see nmJ = J := by show keepF nmJ (s.K nmJ) s.cs = J; rw [hcs, hJ]; rfl
  have e1 : pst s (hdSt q) 1 = ⟨s.K, [hdC q]⟩ := by
    show (⟨s.K, s.cs ++ wchs nmJ (s.see nmJ) 0 (bstr q).data.toList⟩ : PS) = _
    rw [hcs, hsee, bstr_data, wchs_head hq, wsize_none hl]
    rfl
  have hsafe : Safe Q ⟨s.K, [hdC q]⟩ := fun XD XJ hD hX => by
    have d : XD = s.K nmD := Surv.other (fun c hc => by rw [List.mem_singleton.1 hc]; exact isN_no (nm' := nmJ) rfl neDJ) hD
    obtain ⟨k, hk⟩ := hX
    rw [show isN nmJ (hdC q) = true from isN_self _ _ _ _, if_pos rfl] at hk
    have hk' : XJ = takeL (s.K nmJ) (hdC q) k := hk
    rw [d, hk', hJ]
    exact hQ k
  refine ⟨fun k hk => ?_, ?_⟩
  · rcases (show k = 0 ∨ k = 1 by omega) with rfl | rfl
    · show Safe Q (pst s (hdSt q) 1)
      rw [e1]; exact hsafe
    · show Safe Q (pst s (hdSt q) 1)
      rw [e1]; exact hsafe
  · show (Stp.sync nmJ).dn (pst s (hdSt q) 1) = _
    rw [e1]
    have hs1 : (⟨s.K, [hdC q]⟩ : PS).see nmJ = wseen J 0 q := by
      have := keep_wchs nmJ J q 0 (by omega)
      rw [wchs_head hq, wsize_none hl, List.nil_append] at this
      show keepF nmJ (s.K nmJ) [hdC q] = _
      rw [hJ]; exact this
    show (⟨s.K.set nmJ ((⟨s.K, [hdC q]⟩ : PS).see nmJ), others nmJ [hdC q]⟩ : PS) = _
    rw [hs1, others_all (fun c hc => by rw [List.mem_singleton.1 hc]; exact isN_self _ _ _ _)]
/-- What a crash may leave of a journal and a database. -/
def Good (db new : List UInt8) (old m : Nat) (tl : List Nat) (T : Nat → Nat) (P : Nat → List UInt8) (XD XJ : List UInt8) : Prop :=
  (Cd XJ ∧ XD = db) ∨ ((HS XJ (m + 1) old 0 0 ∧ Recs XJ m T P) ∧ Intact db old tl XD) ∨ (Cd XJ ∧ XD = new)
theorem Intact.self (db : List UInt8) {old : Nat} (tl : List Nat) (h : db.length = 256 * old) : Intact db old tl db := fun p p1 p2 _ => ⟨by omega, rfl⟩
/-- The first steps that lay aside, up to the sync ahead of the head. -/
theorem aside_first {db new l0 : List UInt8} {old m : Nat} {tl : List Nat} {T : Nat → Nat} {P : Nat → List UInt8} (hP : ∀ k, k < m → (P k).length = 256) {s : PS} (hcs : s.cs = []) (hD : s.K nmD = db) (hJ : s.K nmJ = l0) (hc : Cd l0) :
    Run (Good db new old m tl T P) s (catS (catS (renS l0) 2 (recS T P)) (2 + m) (fun _ => .sync nmJ)) (2 + m + 1) ∧ (∀ k, k ≤ 2 + m + 1 → (pst s (catS (catS (renS l0) 2 (recS T P)) (2 + m) (fun _ => .sync nmJ)) k).K nmD = db) ∧ (∀ k, k ≤ 2 + m → ∀ c ∈ (pst s (catS (catS (renS l0) 2 (recS T P)) (2 + m) (fun _ => .sync nmJ)) k).cs, isN nmJ c = true) := by
  obtain ⟨S, hS⟩ : ∃ S, S = catS (catS (renS l0) 2 (recS T P)) (2 + m) (fun _ => Stp.sync nmJ) := ⟨_, rfl⟩
  rw [← hS]
  have hform : ∀ k, k < 2 + m + 1 → S k = .put nmJ 0 (bstr (sealB 0 0 0 0)) ∨ S k = .sync nmJ ∨ ∃ j, j < m ∧ S k = .put nmJ (64 + 320 * j) (bstr (recB (T j) (P j))) := fun k hk => by
    rw [hS]
    by_cases c1 : k < 2 + m
    · rw [catS_lt c1]
      by_cases c2 : k < 2
      · rw [catS_lt c2]
        rcases (show k = 0 ∨ k = 1 by omega) with rfl | rfl
        · left
          show Stp.put nmJ 0 (hdS l0) = _
          unfold hdS
          rw [hc.hd.1, hc.hd.2.1, hc.hd.2.2.1, hc.hd.2.2.2]
        · exact .inr (.inl rfl)
      · obtain ⟨j, rfl⟩ : ∃ j, k = 2 + j := ⟨k - 2, by omega⟩
        rw [catS_ge]
        exact .inr (.inr ⟨j, by omega, rfl⟩)
    · obtain ⟨j, rfl⟩ : ∃ j, k = 2 + m + j := ⟨k - (2 + m), by omega⟩
      rw [catS_ge]
      exact .inr (.inl rfl)
  have stJ : ∀ k, k < 2 + m + 1 → Pend nmJ Cd (pst s S k) → (∀ a d, S k = .put nmJ a d → ∀ c ∈ wchs nmJ ((pst s S k).see nmJ) a d.data.toList, ∀ l j, Cd l → Cd (takeL l c j)) ∧ (∀ m, S k = .cut nmJ m → ∀ l j, Cd l → Cd (takeL l (cutC nmJ m) j)) := fun k hk _ => by
    rcases hform k hk with e | e | ⟨j, hj, e⟩
    · rw [e]
      refine ⟨fun a d e2 c hm l i hl => ?_, fun n e2 => by cases e2⟩
      cases e2
      rw [bstr_data, wchs_head (sealB_length _ _ _ _)] at hm
      rcases List.mem_append.1 hm with hm | hm
      · have := mem_wsize hm
        exact hl.past (.inl ⟨this.1, by rw [this.2]; omega⟩) i
      · rw [List.mem_singleton.1 hm]; exact hl.same i
    · rw [e]; exact ⟨fun a d e2 => (by cases e2), fun n e2 => (by cases e2)⟩
    · rw [e]
      refine ⟨fun a d e2 c hm l i hl => ?_, fun n e2 => by cases e2⟩
      cases e2
      refine hl.past ?_ i
      rw [bstr_data] at hm
      unfold wchs at hm
      rcases List.mem_append.1 hm with hm | hm
      · have := mem_wsize hm
        exact .inl ⟨this.1, by rw [this.2]; omega⟩
      · unfold secs at hm
        obtain ⟨q, hq, rfl⟩ := List.mem_map.1 hm
        rw [List.mem_range'_1] at hq
        exact .inr (by show (1 : Int) ≤ (q : Int); omega)
  have stD : ∀ k, k < 2 + m + 1 → Pend nmD (fun X => X = db) (pst s S k) → (∀ a d, S k = .put nmD a d → ∀ c ∈ wchs nmD ((pst s S k).see nmD) a d.data.toList, ∀ l j, l = db → takeL l c j = db) ∧ (∀ m, S k = .cut nmD m → ∀ l j, l = db → takeL l (cutC nmD m) j = db) := fun k hk _ => by
    rcases hform k hk with e | e | ⟨j, hj, e⟩
    · rw [e]; exact ⟨fun a d e2 => absurd (Stp.put.inj e2).1 (Ne.symm neDJ), fun n e2 => by cases e2⟩
    · rw [e]; exact ⟨fun a d e2 => (by cases e2), fun n e2 => (by cases e2)⟩
    · rw [e]; exact ⟨fun a d e2 => absurd (Stp.put.inj e2).1 (Ne.symm neDJ), fun n e2 => by cases e2⟩
  have pJ := pend_free (nm := nmJ) (P := Cd) hcs (by rw [hJ]; exact hc)
  have pD := pend_free (nm := nmD) (P := fun X => X = db) hcs hD
  refine ⟨Pend.two (fun k hk => pD.runC stD k hk) (fun k hk => pJ.runC stJ k hk) (fun x y hx hy => .inl ⟨hy, hx⟩), fun k hk => (pD.run stD k hk).here, fun k hk => ?_⟩
  induction k with
  | zero => intro c h; rw [show pst s S 0 = s from rfl, hcs] at h; cases h
  | succ k ih =>
    intro c h
    have ih := ih (by omega)
    have h' : c ∈ ((S k).dn (pst s S k)).cs := h
    rcases hform k (by omega) with e | e | ⟨j, hj, e⟩
    · rw [e] at h'
      rcases List.mem_append.1 h' with h' | h'
      · exact ih c h'
      · rw [show nmJ = c.name from (wchs_name h').symm]; exact isN_name rfl
    · rw [e] at h'
      exact ih c (mem_others h').1
    · rw [e] at h'
      rcases List.mem_append.1 h' with h' | h'
      · exact ih c h'
      · rw [show nmJ = c.name from (wchs_name h').symm]; exact isN_name rfl
theorem asd_put {l0 : List UInt8} {old m : Nat} {T : Nat → Nat} {P : Nat → List UInt8} (hP : ∀ k, k < m → (P k).length = 256) : PutsOk (asdS l0 old m T P) (2 + m + 3) := fun k hk nm a d e => by
  unfold asdS catS at e
  split at e
  · split at e
    · match k, e with
      | 0, e => cases e; rw [show (hdS l0).size = 64 by unfold hdS; rw [bstr_size, sealB_length]]; omega
      | 1, e => cases e
    · cases e
      rw [bstr_size, recB_length _ (hP _ (by omega))]; omega
  · generalize k - (2 + m) = j at e
    match j, e with
    | 0, e => cases e
    | 1, e => cases e; rw [bstr_size, sealB_length]; omega
    | j + 2, e => cases e
theorem asd_split {l0 : List UInt8} {old m : Nat} {T : Nat → Nat} {P : Nat → List UInt8} (k : Nat) : asdS l0 old m T P k = catS (catS (catS (renS l0) 2 (recS T P)) (2 + m) (fun _ => .sync nmJ)) (2 + m + 1) (hdSt (sealB (m + 1) old 0 0)) k := by
  unfold asdS
  by_cases c1 : k < 2 + m
  · rw [catS_lt c1]
    exact ((catS_lt (show k < 2 + m + 1 by omega)).trans (catS_lt c1)).symm
  · obtain ⟨j, rfl⟩ : ∃ j, k = 2 + m + j := ⟨k - (2 + m), by omega⟩
    rw [catS_ge]
    match j with
    | 0 => rw [catS_lt (by omega), catS_ge]; rfl
    | 1 => rw [show 2 + m + 1 = 2 + m + 1 + 0 by omega, catS_ge]; rfl
    | j + 2 => rw [show 2 + m + (j + 2) = 2 + m + 1 + (j + 1) by omega, catS_ge]; rfl
theorem pst_congr {s : PS} {S S' : Nat → Stp} (h : ∀ k, S k = S' k) (k : Nat) : pst s S k = pst s S' k := by rw [show S = S' from funext h]
/-- What lays pages aside, wherever it crashes. -/
theorem aside_run {db new l0 : List UInt8} {old m : Nat} {tl : List Nat} {T : Nat → Nat} {P : Nat → List UInt8} (hP : ∀ k, k < m → (P k).length = 256) (hdb : db.length = 256 * old) {s : PS} (hcs : s.cs = []) (hD : s.K nmD = db) (hJ : s.K nmJ = l0) (hc : Cd l0) :
    Run (Good db new old m tl T P) s (asdS l0 old m T P) (2 + m + 3) ∧ (pst s (asdS l0 old m T P) (2 + m + 3)).cs = [] ∧ (pst s (asdS l0 old m T P) (2 + m + 3)).K nmD = db := by
  obtain ⟨r1, kD, cJ⟩ := aside_first (new := new) (old := old) (tl := tl) hP hcs hD hJ hc
  have hseef : s.see nmJ = l0 := by show keepF nmJ (s.K nmJ) s.cs = l0; rw [hcs, hJ]; rfl
  have hS : asdS l0 old m T P = catS (catS (catS (renS l0) 2 (recS T P)) (2 + m) (fun _ => .sync nmJ)) (2 + m + 1) (hdSt (sealB (m + 1) old 0 0)) := funext asd_split
  have hput := asd_put (l0 := l0) (old := old) (T := T) hP
  have hse := see_pst s (asdS l0 old m T P) (2 + m + 3) hput (2 + m + 1) (by omega)
  rw [hS] at hse ⊢
  rw [pst_le (Nat.le_refl _)] at hse
  have c0 : (pst s (catS (catS (renS l0) 2 (recS T P)) (2 + m) (fun _ => Stp.sync nmJ)) (2 + m + 1)).cs = [] := by
    show ((catS (catS (renS l0) 2 (recS T P)) (2 + m) (fun _ => Stp.sync nmJ) (2 + m)).dn (pst s (catS (catS (renS l0) 2 (recS T P)) (2 + m) (fun _ => Stp.sync nmJ)) (2 + m))).cs = []
    rw [show catS (catS (renS l0) 2 (recS T P)) (2 + m) (fun _ => Stp.sync nmJ) (2 + m) = .sync nmJ from if_neg (by omega)]
    exact others_all (cJ (2 + m) (Nat.le_refl _))
  have hKs : ∀ nm, (pst s (catS (catS (renS l0) 2 (recS T P)) (2 + m) (fun _ => Stp.sync nmJ)) (2 + m + 1)).K nm = (pst s (catS (catS (renS l0) 2 (recS T P)) (2 + m) (fun _ => Stp.sync nmJ)) (2 + m + 1)).see nm := fun nm => by
    show _ = keepF nm _ _
    rw [c0]; rfl
  obtain ⟨s1, hs1⟩ : ∃ s1, s1 = pst s (catS (catS (renS l0) 2 (recS T P)) (2 + m) (fun _ => Stp.sync nmJ)) (2 + m + 1) := ⟨_, rfl⟩
  have k1 := kD (2 + m + 1) (Nat.le_refl _)
  rw [← hs1] at hse c0 hKs k1
  have hview : s1.see nmJ = vw s.see (asdS (s.see nmJ) old m T P) (2 + m + 1) nmJ := by rw [hse, hseef, ← hS]
  have hh := asd_head s.see (old := old) (T := T) (P := P) hP (k := 2 + m + 1) (by omega) (Nat.le_refl _)
  rw [hseef, hc.hd.1, hc.hd.2.1, hc.hd.2.2.1, hc.hd.2.2.2, ← hseef, ← hview] at hh
  have hrec : Recs (s1.see nmJ) m T P := by
    have r2 := ren_view s.see 2 (by omega) (by omega)
    have hr := rec_view (vw s.see (renS (s.see nmJ)) 2) T P hP (by rw [r2.2.1]; omega) m (Nat.le_refl _)
    have e : vw s.see (asdS (s.see nmJ) old m T P) (2 + m + 1) nmJ = vw (vw s.see (renS (s.see nmJ)) 2) (recS T P) m nmJ := by
      rw [asd_tail]; rfl
    rw [hview, e]
    exact ⟨hr.2.2.1, by rw [hr.2.1]; omega⟩
  have hl : 64 ≤ (s1.see nmJ).length := by have := hrec.len; omega
  obtain ⟨r2, p2⟩ := head_run (Q := Good db new old m tl T P) (s := s1) (q := sealB (m + 1) old 0 0) c0 (hKs nmJ) hl (sealB_length _ _ _ _) (fun k => by
    rw [k1]
    rcases HS.new (a' := m + 1) (b' := old) (c' := 0) (d' := 0) hh k with h | h
    · exact .inl ⟨.inr h, rfl⟩
    · exact .inr (.inl ⟨⟨h, hrec.hd (sealB_length _ _ _ _) k⟩, Intact.self db tl hdb⟩))
  refine ⟨?_, ?_, ?_⟩
  · have := Run.cat r1 (by rw [← hs1]; exact r2)
    exact this
  · rw [show 2 + m + 3 = 2 + m + 1 + 2 by omega, pst_add, ← hs1, p2]
  · rw [show 2 + m + 3 = 2 + m + 1 + 2 by omega, pst_add, ← hs1, p2]
    exact (set_other s1.K neDJ (wseen (s1.see nmJ) 0 (sealB (m + 1) old 0 0))).trans k1
end Go.Proofs.Ytfcgjedanhmpiaa

namespace Go.Proofs.Ytfcgjedanhmpiaa
open Go.ChangeShapes Go.WideShapes Go.ChangeAt Go.RowKit
set_option linter.unusedVariables false

def dbS (cnt n : Nat) (N : Nat → Nat) (L : Nat → List UInt8) : Nat → Stp := catS (pgS N L) n (fun k => match k with | 0 => .cut nmD (256 * cnt) | _ => .sync nmD)
theorem chg_split {cnt n : Nat} {N : Nat → Nat} {L : Nat → List UInt8} (k : Nat) : chgS cnt n N L k = catS (dbS cnt n N L) (n + 2) (hdSt (sealB 0 0 0 0)) k := by
  unfold chgS
  by_cases c1 : k < n
  · rw [catS_lt c1]
    exact ((catS_lt (show k < n + 2 by omega)).trans (catS_lt c1)).symm
  · obtain ⟨j, rfl⟩ : ∃ j, k = n + j := ⟨k - n, by omega⟩
    rw [catS_ge]
    match j with
    | 0 => rw [catS_lt (by omega)]; unfold dbS; rw [catS_ge]; rfl
    | 1 => rw [catS_lt (by omega)]; unfold dbS; rw [catS_ge]; rfl
    | j + 2 =>
      rw [show n + (j + 2) = n + 2 + j by omega, catS_ge]
      match j with
      | 0 => rfl
      | j + 1 => rfl
theorem chg_put {cnt n : Nat} {N : Nat → Nat} {L : Nat → List UInt8} (hL : ∀ j, j < n → (L j).length = 256) : PutsOk (chgS cnt n N L) (n + 4) := fun k hk nm a d e => by
  unfold chgS catS at e
  split at e
  · cases e; rw [bstr_size, hL k (by assumption)]; omega
  · generalize k - n = j at e
    match j, e with
    | 0, e => cases e
    | 1, e => cases e
    | 2, e => cases e; rw [bstr_size, sealB_length]; omega
    | j + 3, e => cases e
/-- The database is changed, while the journal is hot. -/
theorem db_run {Q : List UInt8 → List UInt8 → Prop} {db X J : List UInt8} {old cnt n : Nat} {tl : List Nat} {N : Nat → Nat} {L : Nat → List UInt8} (hL : ∀ j, j < n → (L j).length = 256) (hN : ∀ j, j < n → 1 ≤ N j ∧ (N j ∈ tl ∨ old < N j)) (hcn : ∀ p, 1 ≤ p → p ≤ old → p ∉ tl → p ≤ cnt) {s : PS} (hcs : s.cs = []) (hD : s.K nmD = X) (hJ : s.K nmJ = J) (hI : Intact db old tl X) (hQ : ∀ Y, Intact db old tl Y → Q Y J) :
    Run Q s (dbS cnt n N L) (n + 2) ∧ (pst s (dbS cnt n N L) (n + 2)).cs = [] ∧ (pst s (dbS cnt n N L) (n + 2)).K nmJ = J ∧ Intact db old tl ((pst s (dbS cnt n N L) (n + 2)).K nmD) := by
  obtain ⟨S, hS⟩ : ∃ S, S = dbS cnt n N L := ⟨_, rfl⟩
  rw [← hS]
  have hform : ∀ k, k < n + 2 → (∃ j, j < n ∧ k = j ∧ S k = .put nmD (256 * (N j - 1)) (bstr (L j))) ∨ (k = n ∧ S k = .cut nmD (256 * cnt)) ∨ (k = n + 1 ∧ S k = .sync nmD) := fun k hk => by
    rw [hS]
    unfold dbS
    by_cases c1 : k < n
    · rw [catS_lt c1]; exact .inl ⟨k, c1, rfl, rfl⟩
    · obtain ⟨j, rfl⟩ : ∃ j, k = n + j := ⟨k - n, by omega⟩
      rw [catS_ge]
      rcases (show j = 0 ∨ j = 1 by omega) with rfl | rfl
      · exact .inr (.inl ⟨rfl, rfl⟩)
      · exact .inr (.inr ⟨rfl, rfl⟩)
  have stD : ∀ k, k < n + 2 → Pend nmD (Intact db old tl) (pst s S k) → (∀ a d, S k = .put nmD a d → ∀ c ∈ wchs nmD ((pst s S k).see nmD) a d.data.toList, ∀ l j, Intact db old tl l → Intact db old tl (takeL l c j)) ∧ (∀ m, S k = .cut nmD m → ∀ l j, Intact db old tl l → Intact db old tl (takeL l (cutC nmD m) j)) := fun k hk hp => by
    rcases hform k hk with ⟨j, hj, rfl, e⟩ | ⟨rfl, e⟩ | ⟨rfl, e⟩
    · rw [e]
      refine ⟨fun a d e2 c hm l i hl => ?_, fun n e2 => (by cases e2)⟩
      cases e2
      rw [bstr_data] at hm
      exact Intact.put hl hp.see (hN k hj).1 (hN k hj).2 (hL k hj) hm i
    · rw [e]
      refine ⟨fun a d e2 => (by cases e2), fun n e2 l i hl => ?_⟩
      cases e2
      exact hl.cut hcn i
    · rw [e]; exact ⟨fun a d e2 => (by cases e2), fun n e2 => (by cases e2)⟩
  have stJ : ∀ k, k < n + 2 → Pend nmJ (fun Y => Y = J) (pst s S k) → (∀ a d, S k = .put nmJ a d → ∀ c ∈ wchs nmJ ((pst s S k).see nmJ) a d.data.toList, ∀ l j, l = J → takeL l c j = J) ∧ (∀ m, S k = .cut nmJ m → ∀ l j, l = J → takeL l (cutC nmJ m) j = J) := fun k hk _ => by
    rcases hform k hk with ⟨j, hj, rfl, e⟩ | ⟨rfl, e⟩ | ⟨rfl, e⟩
    · rw [e]; exact ⟨fun a d e2 => absurd (Stp.put.inj e2).1 neDJ, fun n e2 => (by cases e2)⟩
    · rw [e]; exact ⟨fun a d e2 => (by cases e2), fun n e2 => absurd (Stp.cut.inj e2).1 neDJ⟩
    · rw [e]; exact ⟨fun a d e2 => (by cases e2), fun n e2 => (by cases e2)⟩
  have pD := pend_free (nm := nmD) (P := Intact db old tl) hcs (by rw [hD]; exact hI)
  have pJ := pend_free (nm := nmJ) (P := fun Y => Y = J) hcs hJ
  have names : ∀ k, k ≤ n + 1 → ∀ c ∈ (pst s S k).cs, isN nmD c = true := fun k => by
    induction k with
    | zero => intro _ c h; rw [show pst s S 0 = s from rfl, hcs] at h; cases h
    | succ k ih =>
      intro hk c h
      have ih2 := ih (by omega)
      have h' : c ∈ ((S k).dn (pst s S k)).cs := h
      rcases hform k (by omega) with ⟨j, hj, rfl, e⟩ | ⟨rfl, e⟩ | ⟨e', e⟩
      · rw [e] at h'
        rcases List.mem_append.1 h' with h' | h'
        · exact ih2 c h'
        · rw [show nmD = c.name from (wchs_name h').symm]; exact isN_name rfl
      · rw [e] at h'
        rcases List.mem_append.1 h' with h' | h'
        · exact ih2 c h'
        · have h2 : c ∈ (if 256 * cnt = ((pst s S k).see nmD).length then [] else [cutC nmD (256 * cnt)]) := h'
          split at h2
          · cases h2
          · rw [List.mem_singleton.1 h2]; exact isN_self _ _ _ _
      · omega
  refine ⟨Pend.two (fun k hk => pD.runC stD k hk) (fun k hk => pJ.runC stJ k hk) (fun x y hx hy => by rw [hy]; exact hQ x hx), ?_, (pJ.run stJ (n + 2) (Nat.le_refl _)).here, (pD.run stD (n + 2) (Nat.le_refl _)).here⟩
  show ((S (n + 1)).dn (pst s S (n + 1))).cs = []
  rcases hform (n + 1) (by omega) with ⟨j, hj, e', e⟩ | ⟨e', e⟩ | ⟨_, e⟩
  · omega
  · omega
  · rw [e]; exact others_all (names (n + 1) (Nat.le_refl _))
/-- All steps of a change. -/
theorem change_run {db new X J : List UInt8} {old cnt n m : Nat} {tl : List Nat} {N : Nat → Nat} {L : Nat → List UInt8} {T : Nat → Nat} {P : Nat → List UInt8} (hL : ∀ j, j < n → (L j).length = 256) (hN : ∀ j, j < n → 1 ≤ N j ∧ (N j ∈ tl ∨ old < N j)) (hcn : ∀ p, 1 ≤ p → p ≤ old → p ∉ tl → p ≤ cnt) {s : PS} (hcs : s.cs = []) (hD : s.K nmD = X) (hJ : s.K nmJ = J) (hI : Intact db old tl X)
    (hh : J.take 64 = sealB (m + 1) old 0 0) (hr : Recs J m T P) (hnew : vw s.see (chgS cnt n N L) (n + 2) nmD = new ∨ vw s.see (chgS cnt n N L) (n + 2) nmD = db) :
    Run (Good db new old m tl T P) s (chgS cnt n N L) (n + 4) ∧ (pst s (chgS cnt n N L) (n + 4)).cs = [] ∧ Cd ((pst s (chgS cnt n N L) (n + 4)).K nmJ) ∧ (pst s (chgS cnt n N L) (n + 4)).K nmD = vw s.see (chgS cnt n N L) (n + 2) nmD := by
  have hS : chgS cnt n N L = catS (dbS cnt n N L) (n + 2) (hdSt (sealB 0 0 0 0)) := funext chg_split
  have hse := see_pst s (chgS cnt n N L) (n + 4) (chg_put hL) (n + 2) (by omega)
  obtain ⟨V, hV⟩ : ∃ V, V = vw s.see (chgS cnt n N L) (n + 2) nmD := ⟨_, rfl⟩
  have hseD := congrFun hse nmD
  rw [← hV] at hnew hseD ⊢
  rw [hS] at hseD ⊢
  rw [pst_le (Nat.le_refl _)] at hseD
  obtain ⟨r1, c1, j1, i1⟩ := db_run (Q := Good db new old m tl T P) (db := db) (old := old) (cnt := cnt) (n := n) (N := N) (L := L) hL hN hcn hcs hD hJ hI (fun Y hY => .inr (.inl ⟨⟨HS.exact hh, hr⟩, hY⟩))
  obtain ⟨s1, hs1⟩ : ∃ s1, s1 = pst s (dbS cnt n N L) (n + 2) := ⟨_, rfl⟩
  rw [← hs1] at c1 j1 i1 hseD
  have hKD : s1.K nmD = V := by
    rw [← hseD]
    show _ = keepF nmD (s1.K nmD) s1.cs
    rw [c1]; rfl
  rw [hKD] at i1
  have hl : 64 ≤ J.length := by have := hr.len; omega
  obtain ⟨r2, p2⟩ := head_run (Q := Good db new old m tl T P) (s := s1) (q := sealB 0 0 0 0) c1 j1 hl (sealB_length _ _ _ _) (fun k => by
    rw [hKD]
    rcases HS.new (a' := 0) (b' := 0) (c' := 0) (d' := 0) hh k with h | h
    · exact .inr (.inl ⟨⟨h, hr.hd (sealB_length _ _ _ _) k⟩, i1⟩)
    · rcases hnew with e | e
      · exact .inr (.inr ⟨.inr h, e⟩)
      · exact .inl ⟨.inr h, e⟩)
  refine ⟨Run.cat r1 (by rw [← hs1]; exact r2), ?_, ?_, ?_⟩
  · rw [show n + 4 = n + 2 + 2 by omega, pst_add, ← hs1, p2]
  · rw [show n + 4 = n + 2 + 2 by omega, pst_add, ← hs1, p2]
    show Cd (s1.K.set nmJ (wseen J 0 (sealB 0 0 0 0)) nmJ)
    rw [set_same]
    exact .inr (HS.exact (take_wseen0 _ _ (sealB_length _ _ _ _)))
  · rw [show n + 4 = n + 2 + 2 by omega, pst_add, ← hs1, p2]
    exact (set_other s1.K neDJ (wseen J 0 (sealB 0 0 0 0))).trans hKD
/-- Taking back. -/
theorem back_run {db new X l : List UInt8} {old m : Nat} {tl : List Nat} {T : Nat → Nat} {P : Nat → List UInt8} (hb : m + 1 < 4294967296 ∧ old < 4294967296) (hdb : db.length = 256 * old) (hP : ∀ k, k < m → P k = pgL db (T k) ∧ (P k).length = 256) (hT : ∀ k, k < m → 1 ≤ T k ∧ T k ∈ tl) (htl : ∀ p ∈ tl, ∃ k, k < m ∧ T k = p) {s : PS} (hcs : s.cs = []) (hD : s.K nmD = X) (hJ : s.K nmJ = l) (hI : Intact db old tl X)
    (hh : HS l (m + 1) old 0 0) (hr : Recs l m T P) :
    Run (Good db new old m tl T P) s (bakS s.see old m T P) (2 + (m + 4)) ∧ (pst s (bakS s.see old m T P) (2 + (m + 4))).cs = [] ∧ Cd ((pst s (bakS s.see old m T P) (2 + (m + 4))).K nmJ) ∧ (pst s (bakS s.see old m T P) (2 + (m + 4))).K nmD = db := by
  have hseeJ : s.see nmJ = l := by show keepF nmJ (s.K nmJ) s.cs = l; rw [hcs, hJ]; rfl
  have hseeD : s.see nmD = X := by show keepF nmD (s.K nmD) s.cs = X; rw [hcs, hD]; rfl
  obtain ⟨h0, h1, h2, h3⟩ := hh.hd hb.1 hb.2 (by omega) (by omega)
  have hren : renS (s.see nmJ) = hdSt (sealB (m + 1) old 0 0) := by
    funext k
    match k with
    | 0 =>
      show Stp.put nmJ 0 (hdS (s.see nmJ)) = _
      unfold hdS
      rw [hseeJ, h0, h1, h2, h3]
      rfl
    | k + 1 => rfl
  obtain ⟨r1, p1⟩ := head_run (Q := Good db new old m tl T P) (s := s) (q := sealB (m + 1) old 0 0) hcs hJ hh.long (sealB_length _ _ _ _) (fun k => by
    rw [hD]
    exact .inr (.inl ⟨⟨hh.same k, hr.hd (sealB_length _ _ _ _) k⟩, hI⟩))
  obtain ⟨s1, hs1⟩ : ∃ s1, s1 = pst s (hdSt (sealB (m + 1) old 0 0)) 2 := ⟨_, rfl⟩
  rw [← hs1] at p1
  have hK1J : s1.K nmJ = wseen l 0 (sealB (m + 1) old 0 0) := by rw [p1]; exact set_same s.K nmJ (wseen l 0 (sealB (m + 1) old 0 0))
  have hK1D : s1.K nmD = X := by rw [p1]; exact (set_other s.K neDJ (wseen l 0 (sealB (m + 1) old 0 0))).trans hD
  have hc1 : s1.cs = [] := by rw [p1]
  have hs1D : s1.see nmD = X := by show keepF nmD (s1.K nmD) s1.cs = X; rw [hc1, hK1D]; rfl
  have hr1 : Recs (wseen l 0 (sealB (m + 1) old 0 0)) m T P := by
    refine ⟨fun j hj => ?_, by rw [length_wseen]; have := hr.len; omega⟩
    rw [subL_wseen_off _ _ _ _ _ (.inr (by rw [sealB_length]; omega)) (by have := hr.len; omega)]
    exact hr.recs j hj
  have hcx : 256 * old ≤ (s1.see nmD).length ∨ ∃ j, j < m ∧ T j = old := by
    rcases Nat.eq_zero_or_pos old with e | e
    · exact .inl (by omega)
    · by_cases c : old ∈ tl
      · exact .inr (htl old c)
      · exact .inl (by rw [hs1D]; exact (hI old e (Nat.le_refl _) c).1)
  have he := chg_end s1.see (count := old) (N := T) (L := P) (fun j hj => (hP j hj).2) (fun j hj => (hT j hj).1) hcx
  have hfin : vw s1.see (chgS old m T P) (m + 2) nmD = db := by
    have e2 := he.2.2.1 2 (by omega) (by omega)
    have e4 := he.2.2.1 4 (by omega) (by omega)
    rw [e2, ← e4]
    refine db_ext he.1.len hdb (fun p p1 p2 => ?_)
    rcases he.1.pgs p p1 p2 with ⟨j, g1, g2, g3⟩ | ⟨g1, g2⟩
    · rw [g3, (hP j g1).1, g2]
    · have hnt : p ∉ tl := fun ht => by
        obtain ⟨k, hk, e⟩ := htl p ht
        exact g1 k hk e
      have := hI p p1 p2 hnt
      rw [g2 (by rw [hs1D]; exact this.1), hs1D]
      exact this.2
  have hch := change_run (db := db) (new := new) (cnt := old) (m := m) (T := T) (P := P) (fun j hj => (hP j hj).2) (fun j hj => ⟨(hT j hj).1, .inl (hT j hj).2⟩) (fun p _ h _ => h) hc1 hK1D hK1J hI (take_wseen0 _ _ (sealB_length _ _ _ _)) hr1 (.inr hfin)
  unfold bakS
  rw [hren]
  refine ⟨Run.cat r1 (by rw [← hs1]; exact hch.1), ?_, ?_, ?_⟩
  · rw [pst_add, ← hs1]; exact hch.2.1
  · rw [pst_add, ← hs1]; exact hch.2.2.1
  · rw [pst_add, ← hs1, hch.2.2.2]; exact hfin
end Go.Proofs.Ytfcgjedanhmpiaa
